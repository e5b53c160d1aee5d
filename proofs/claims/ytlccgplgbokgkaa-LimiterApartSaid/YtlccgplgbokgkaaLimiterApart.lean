/- The walk of LimiterApart. -/
import Derived.Test.YtlccgplgbokgkaaLimAp
namespace Go.Proofs.Ytlccgplgbokgkaa
namespace LimiterApart
open Go.ChangeShapes Go.WideShapes Go.ChangeAt Go.RowKit Go.Maps
open Num Mem Words Chacha Aead Poly Adr Ops Quiet Stamp RowV Lim

theorem cut_post {F : Exit → Act → World → Prop} {e : Exit} {a : Act} {w : World} (R : World → Prop) (hR : R w) (h : ∀ w', R w' → F e a w') : F e a w := h w hR
theorem LW.setO {w : World} {g b O k : Nat} {L : List Bk} {last : Int} {D : DataW Unit} (h : LW w g b L last D) (hg : g ≠ O) (hb : b ≠ O) (u : Value) : LW (w.setCell ⟨O, k, none⟩ u) g b L last D :=
  ⟨Whole.far h.obj hg _, h.own.setCell hb _, h.ag, h.good⟩
/-- the row of limiters, of which i are made -/
def oneC (G : Nat → Nat) (i : Nat) : Array Value := ((List.range 4).map fun j => if j < i then Value.pointer (some ⟨G (j + 1), 0, none⟩) else Value.pointer none).toArray
theorem oneC_zero (G : Nat → Nat) : oneC G 0 = #[.pointer none, .pointer none, .pointer none, .pointer none] := rfl
theorem oneC_set (G : Nat → Nat) (g : Nat) (i : Nat) (hi : i < 4) : (oneC G i).setIfInBounds i (.pointer (some ⟨g, 0, none⟩)) = oneC (fun j => if j = i + 1 then g else G j) (i + 1) := by
  rcases (by omega : i = 0 ∨ i = 1 ∨ i = 2 ∨ i = 3) with rfl | rfl | rfl | rfl <;> simp [oneC, List.range_succ]
theorem oneC_get (G : Nat → Nat) (i : Nat) (hi : i < 4) : (oneC G 4)[i]? = some (.pointer (some ⟨G (i + 1), 0, none⟩)) := by
  rcases (by omega : i = 0 ∨ i = 1 ∨ i = 2 ∨ i = 3) with rfl | rfl | rfl | rfl <;> simp [oneC, List.range_succ]
theorem oneC_none (G : Nat → Nat) (i : Nat) (hi : i < 4) : (oneC G i)[i]? = some (.pointer none) := by
  rcases (by omega : i = 0 ∨ i = 1 ∨ i = 2 ∨ i = 3) with rfl | rfl | rfl | rfl <;> simp [oneC, List.range_succ]

/-- behind i limiters of the row -/
structure I1 (w : World) (O i : Nat) (G B : Nat → Nat) (wr : World) : Prop where
  lw : ∀ j, j ≤ i → ∃ D, LW wr (G j) (B j) [] 0 D
  ge : ∀ j, j ≤ i → w.heap.size ≤ G j ∧ w.heap.size ≤ B j
  ne : ∀ j j', j ≤ i → j' ≤ i → j ≠ j' → G j ≠ G j' ∧ G j ≠ B j' ∧ B j ≠ G j' ∧ B j ≠ B j'
  o : Whole wr O 51 (oneC G i)
  oge : w.heap.size ≤ O
  one : ∀ j, j ≤ i → O ≠ G j ∧ O ≠ B j
  bel : Below w.heap.size w wr
theorem I1.step {w : World} {O i : Nat} {G B : Nat → Nat} {wr w3 : World} (h : I1 w O i G B wr) (hi : i < 4) {g b : Nat} (hg : wr.heap.size ≤ g) (hb : wr.heap.size ≤ b) (hbel : Below wr.heap.size wr w3) {D : DataW Unit} (hl : LW w3 g b [] 0 D) :
    I1 w O (i + 1) (fun j => if j = i + 1 then g else G j) (fun j => if j = i + 1 then b else B j) (w3.setCell ⟨O, i, none⟩ (.pointer (some ⟨g, 0, none⟩))) := by
  have hO := h.o.lt
  have lts : ∀ j, j ≤ i → G j < wr.heap.size ∧ B j < wr.heap.size := fun j hj => by obtain ⟨D, hd⟩ := h.lw j hj; exact ⟨hd.lt.1, hd.lt.2.1⟩
  constructor
  · intro j hj
    by_cases e : j = i + 1
    · rw [if_pos e, if_pos e]; exact ⟨D, LW.setO hl (by omega) (by omega) _⟩
    · rw [if_neg e, if_neg e]
      obtain ⟨D', hd⟩ := h.lw j (by omega)
      have := h.one j (by omega)
      exact ⟨D', LW.setO (hd.below hbel) (by omega) (by omega) _⟩
  · intro j hj
    have := h.bel.size
    by_cases e : j = i + 1
    · rw [if_pos e, if_pos e]; omega
    · rw [if_neg e, if_neg e]; exact h.ge j (by omega)
  · intro j j' hj hj' hne
    by_cases e : j = i + 1
    · have hl' := lts j' (by omega)
      rw [if_pos e, if_pos e, if_neg (by omega), if_neg (by omega)]; omega
    · by_cases e' : j' = i + 1
      · have hl' := lts j (by omega)
        rw [if_neg e, if_neg e, if_pos e', if_pos e']; omega
      · rw [if_neg e, if_neg e, if_neg e', if_neg e']; exact h.ne j j' (by omega) (by omega) hne
  · have := Whole.put (Whole.below h.o hbel hO) i (.pointer (some ⟨g, 0, none⟩))
    rw [oneC_set _ _ _ hi] at this
    exact this
  · exact h.oge
  · intro j hj
    by_cases e : j = i + 1
    · rw [if_pos e, if_pos e]; omega
    · rw [if_neg e, if_neg e]; exact h.one j (by omega)
  · exact (below_trans h.bel hbel).setCell (by show w.heap.size ≤ O; exact h.oge) _

theorem two_drewl {g b : Nat} {w w' : World} (h : Two g b w.drew w') : Two g b w w' := ⟨h.os, h.tape, h.output, h.size, h.block⟩
/-- the blocks that turn -/
def Sb (G B : Nat → Nat) (x : Nat) : Prop := ∃ j, j < 5 ∧ (x = G j ∨ x = B j)
/-- behind k rounds; W2: the world behind the times -/
structure I2 (G B : Nat → Nat) (Ky : Nat → Lit) (W2 : World) (T : Nat) (wr : World) : Prop where
  chg : Chg (Sb G B) W2 wr
  st : ∃ Ls la, AP Ky Ls la (T : Nat) ∧ ∀ j, j < 5 → ∃ D, LW wr (G j) (B j) (Ls j) (la j) D

/-- what a region reads of: the address' block, a time's cell, the limiter's pointer -/
structure RdS (P : Nat) (A : Array Value) (tb to_ : Nat) (t : Int) (O k g : Nat) (X : World) : Prop where
  a : Whole X P 25 A
  c : X.cell? ⟨tb, to_, none⟩ = some (.int .i64 t)
  o : X.cell? ⟨O, k, none⟩ = some (.pointer (some ⟨g, 0, none⟩))
theorem RdS.two {P : Nat} {A : Array Value} {tb to_ : Nat} {t : Int} {O k g : Nat} {X Y : World} (h : RdS P A tb to_ t O k g X) {g' b' : Nat} (ht : Two g' b' X Y) (h1 : P ≠ g' ∧ P ≠ b') (h2 : tb ≠ g' ∧ tb ≠ b' ∧ tb < X.heap.size) (h3 : O ≠ g' ∧ O ≠ b' ∧ O < X.heap.size) : RdS P A tb to_ t O k g Y := by
  refine ⟨ht.whole h.a h1.1 h1.2, ?_, ?_⟩
  · rw [← h.c]; unfold World.cell?; rw [ht.block tb h2.2.2 h2.1 h2.2.1]
  · rw [← h.o]; unfold World.cell?; rw [ht.block O h3.2.2 h3.1 h3.2.1]

set_option maxRecDepth 100000 in
set_option maxHeartbeats 4000000 in
theorem walk (a : Option Addr) (n cp : Nat) (l : List Nat) (a1 : Option Addr) (n1 cp1 : Nat) (zs : List Int) (w : World) (h0 : RowA.IsNums .u16 (2 ^ 16) w a n l) (h1 : IsRow .u8 w a1 n1 cp1 zs) :
    Calls Try.prog 6 #[.slice a n cp, .slice a1 n1 cp1] w fun e w' => e = .returned (.bool true) ∧ Below w.heap.size w w' := by
  obtain ⟨f, hf, hr, hn1, _⟩ := rd_of_row h1
  have HF := Lib.hid hf
  have HR := Lib.hid hr
  have HN := Lib.hid (new_any w)
  have H0 := Lib.hid h0
  clear h0 h1 hf hr
  go_enter Try.func6, Try.ntmps6
  go_wp2_with fail
  refine HN.out.mono ?_
  rintro e w1 ⟨g0, b0, hg0, hb0, rfl, hb1, D0, hl0⟩
  have HL0 := Lib.hid hl0
  have HB1 := Lib.hid hb1
  clear hl0 hb1 HN
  go_upto_region 3 with fail
  generalize hO : w1.heap.size = O
  have hI : I1 w O 0 (fun _ => g0) (fun _ => b0) (w1.alloc (.cells #[.pointer none, .pointer none, .pointer none, .pointer none] 51)) := by
    have hlt := HL0.out.lt
    constructor
    · intro j hj; exact ⟨D0, HL0.out.below (below_alloc (Below.refl _ _) _)⟩
    · intro j hj; exact ⟨hg0, hb0⟩
    · intro j j' hj hj' hne; omega
    · rw [oneC_zero]; exact whole_new _ _ hO
    · have := HB1.out.size; omega
    · intro j hj; omega
    · exact below_alloc HB1.out _
  have HI := Lib.hid hI
  obtain ⟨X0, hX0⟩ : ∃ X0, w1.alloc (.cells #[.pointer none, .pointer none, .pointer none, .pointer none] 51) = X0 := ⟨_, rfl⟩
  rw [hX0] at HI ⊢
  clear hI hX0 HL0 HB1 hO
  go_wp2_with fail
  go_loopw [7] (fun i wr => ∃ (k : Nat) (G B : Nat → Nat), k ≤ 4 ∧ i = .int .i64 k ∧ G 0 = g0 ∧ I1 w O k G B wr) (fun i _ => 4 - (intOf i).toNat)
  case atStart => exact ⟨0, _, _, by omega, rfl, rfl, HI.out⟩
  case round =>
    obtain ⟨k, G, B, hk, rfl, hG0, hI⟩ := hrel
    have HI1 := Lib.hid hI
    have HG0 := Lib.hid hG0
    clear hI HI hG0
    by_cases hlt : k < 4
    · have hk2 : IntKind.i64.wrap ((k : Int) + 1) = (k : Int) + 1 := by rw [IntKind.wrap_i64]; omega
      have HNW := Lib.hid (new_any wr)
      go_wp2_with fail
      refine HNW.out.mono ?_
      rintro e w3 ⟨g, b, hg, hb, rfl, hb3, D, hl⟩
      have hWO := Whole.below HI1.out.o hb3 HI1.out.o.lt
      have c0 : w3.cell? ⟨O, k, none⟩ = some (.pointer none) := by rw [Whole.cell hWO]; exact oneC_none G k hlt
      have f0 : w3.frozen? ⟨O, k, none⟩ = false := Whole.free hWO k
      have HS := Lib.hid (HI1.out.step hlt hg hb hb3 hl)
      clear hWO hl hb3 HNW
      go_wp2_with fail
      go_round
      case rel => exact ⟨k + 1, _, _, by omega, by go_num, by rw [if_neg (by omega)]; exact HG0.out, HS.out⟩
      case measure => simp [intOf]; omega
    · obtain rfl : k = 4 := by omega
      have H01 : RowA.IsNums .u16 (2 ^ 16) wr a n l := ⟨H0.out.1, H0.out.2.1, H0.out.2.2.1, H0.out.2.2.2.below HI1.out.bel (Nat.le_refl _)⟩
      have HT := Lib.hid (times_any a n cp l wr H01)
      clear H01 H0 hlt
      go_wp2_with fail
      refine HT.out.mono ?_
      rintro e W2 ⟨A2, c2, rfl, hown, hb2⟩
      have lts : ∀ j, j < 5 → G j < wr.heap.size ∧ B j < wr.heap.size := fun j hj => by obtain ⟨D, hd⟩ := HI1.out.lw j (by omega); exact ⟨hd.lt.1, hd.lt.2.1⟩
      have HRD := Lib.hid (rdv_own hown)
      have HAB := Lib.hid (show ∀ x, A2 = some x → ¬ Sb G B x.block ∧ x.block ≠ O ∧ x.block < W2.heap.size from fun x hx => by
        have h1 := hown.lt x.block (by rw [hx]; rfl)
        have hO := HI1.out.o.lt
        refine ⟨?_, by omega, h1.2⟩
        rintro ⟨j, hj, e | e⟩
        · have := (lts j hj).1; omega
        · have := (lts j hj).2; omega)
      have HSg := Lib.hid (show ∀ i, Sb G B i → w.heap.size ≤ i from by
        rintro i ⟨j, hj, rfl | rfl⟩
        · exact (HI1.out.ge j (by omega)).1
        · exact (HI1.out.ge j (by omega)).2)
      have HSO := Lib.hid (show ¬ Sb G B O from by
        rintro ⟨j, hj, e | e⟩
        · exact (HI1.out.one j (by omega)).1 e
        · exact (HI1.out.one j (by omega)).2 e)
      have HNE := Lib.hid HI1.out.ne
      have HO2 := Lib.hid (Whole.below HI1.out.o hb2 HI1.out.o.lt)
      have HB2 := Lib.hid (below_trans HI1.out.bel hb2)
      have H2 := Lib.hid (show I2 G B (apK Try.prog 57) W2 (tS l 0) W2 from ⟨Chg.refl _ _, fun _ => [], fun _ => 0, ap_start (fun j _ => apK_key j) apK_inj, fun j hj => by
        obtain ⟨D, hd⟩ := HI1.out.lw j (by omega)
        exact ⟨D, hd.below hb2⟩⟩)
      obtain ⟨m, hm⟩ : ∃ m, min n 200 = m := ⟨_, rfl⟩
      have hm2 : m ≤ 200 := by omega
      rw [hm] at HRD ⊢
      clear hown hb2 HI1 HT hm lts
      go_wp2_with fail
      go_loopw [9, 10, 11, 12, 13, 14, 15] (fun i _ _ _ _ _ _ wr => ∃ k : Nat, k ≤ m ∧ i = .int .i64 k ∧ I2 G B (apK Try.prog 57) W2 (tS l k) wr) (fun i _ _ _ _ _ _ _ => m - (intOf i).toNat)
      case atStart => exact ⟨0, Nat.zero_le _, rfl, H2.out⟩
      case round =>
        obtain ⟨k, hk, rfl, h2⟩ := hrel
        have H2r := Lib.hid h2
        clear h2 H2
        by_cases hgo : k < m ∧ k < n1
        · obtain ⟨hlt, hlt1⟩ := hgo
          have hr1 : Rd wr a1 n1 f := HR.out.below (HB2.out.trans (H2r.out.chg.below HB2.out.size HSg.out)) (Nat.le_refl _)
          obtain ⟨wb, wo, rfl, hwb, hwc⟩ : ∃ b off, a1 = some ⟨b, off, none⟩ ∧ b < wr.heap.size ∧ ∀ i, i < n1 → wr.cell? ⟨b, off + i, none⟩ = some (.int .u8 (f i : Nat)) := by
            rcases hr1 with h | h
            · omega
            · exact h
          have hwk := hwc k hlt1
          have hfk := HF.out k
          clear hr1 hwc
          obtain ⟨v, hv⟩ : ∃ v, f k = v := ⟨_, rfl⟩
          rw [hv] at hwk hfk
          clear hv
          have hand : bits .and .u8 (v : Int) 3 = ((v % 4 : Nat) : Int) := by
            have h := u8_and_nat v 3 hfk (by omega)
            rw [show (3 : Nat) = 2 ^ 2 - 1 by rfl, Nat.and_two_pow_sub_one_eq_mod] at h
            exact h
          obtain ⟨kk, hkk⟩ : ∃ kk, v % 4 = kk := ⟨_, rfl⟩
          have hkk4 : kk < 4 := by omega
          rw [hkk] at hand
          clear hkk
          have hkk4i : (kk : Int) < 4 := by omega
          have hcv : IntKind.i64.wrap (kk : Int) = (kk : Int) := by rw [IntKind.wrap_i64]; omega
          have hcv8 : IntKind.u8.wrap (kk : Int) = (kk : Int) := by rw [IntKind.wrap_u8]; omega
          have hk2 : IntKind.i64.wrap ((k : Int) + 1) = (k : Int) + 1 := by rw [IntKind.wrap_i64]; omega
          obtain ⟨tb, tof, rfl, htbl, htx⟩ := HRD.out.elim (fun h0 => absurd (congrArg List.length h0) (by rw [tsV_length, List.length_nil]; omega)) id
          have habk := HAB.out _ rfl
          have htc := H2r.out.chg.cell (htx k _ (tsV_get l hlt)) htbl habk.1
          have hok0 : okT ((tS l (k + 1) : Nat) : Int) := by have := tS_le l (k + 1); unfold okT; omega
          have hmono := tS_mono l k
          obtain ⟨Ls, la, hap, hls⟩ := H2r.out.st
          have HAP := Lib.hid hap
          have HCG := Lib.hid H2r.out.chg
          have HLSr := Lib.hid hls
          have HTSr := Lib.hid (show ¬ Sb G B tb ∧ tb < wr.heap.size from ⟨habk.1, Nat.lt_of_lt_of_le htbl HCG.out.size⟩)
          have HXOr := Lib.hid (HCG.out.whole HO2.out HSO.out)
          obtain ⟨u, hu⟩ : ∃ u : Int, ((tS l (k + 1) : Nat) : Int) = u := ⟨_, rfl⟩
          have hTt : ((tS l k : Nat) : Int) ≤ u := by omega
          rw [hu] at htc hok0
          have hok := hok0
          have HU := Lib.hid hu
          have HXTr := Lib.hid htc
          have HTX := Lib.hid htx
          clear hu hap hls H2r htx habk hmono hok0
          obtain ⟨zs, hz, hzs⟩ : ∃ zs : Array Value, (∀ w, (zeroValue 25).run Try.prog w = .ok (.agg zs) w) ∧ zs.size = 17 := ⟨_, zero_addr, addr_size _ _⟩
          have HZS := Lib.hid hzs
          clear hzs
          have HB16 := Lib.hid (ap_built1 kk)
          have HBA := Lib.hid (addr_built4 (apF kk 0))
          have HAO := Lib.hid (addr_one false (apF kk 0))
          have HAS1 := Lib.hid (addr_size false (apF kk 0))
          obtain ⟨R1, hR1⟩ : ∃ R1 : Array Value, (byteCells (apF kk 0) 16).toArray = R1 := ⟨_, rfl⟩
          obtain ⟨A1, hA1⟩ : ∃ A1 : Array Value, (addrL false (apF kk 0)).toArray = A1 := ⟨_, rfl⟩
          rw [hR1] at HB16 HBA
          rw [hA1] at HBA HAO HAS1
          clear hR1
          have HA1 := Lib.hid hA1
          clear hA1
          go_upto_region 13 with (first | (refine wpList_built1 rfl 23 0 (.tmp 45) rfl (.int .u8 (kk : Nat)) rfl R1 HB16.out ?_) | (refine wpList_built1 rfl 25 1 (.tmp 46) rfl (.agg R1) rfl A1 HBA.out ?_) | (refine wpList_store_row rfl 25 (.tmp 11) (.tmp 47) rfl wr.heap.size A1 rfl rfl 25 _ (Whole.new _ _ zs) (by rw [HAS1.out]; kernel_rfl) (by rw [HAS1.out, HZS.out]) HAO.out ?_))
          have hPb : ∀ j, j < 5 → G j < wr.heap.size ∧ B j < wr.heap.size := fun j hj => by obtain ⟨D, hd⟩ := HLSr.out j hj; exact ⟨hd.lt.1, hd.lt.2.1⟩
          have hPt := HTSr.out.2
          have hPO := HXOr.out.lt
          generalize hP : wr.heap.size = P at hPb hPt hPO ⊢
          have hbel : Below wr.heap.size wr ((wr.alloc (.cells zs 25)).setRow P A1) := by rw [← hP]; exact below_setRow (below_alloc (Below.refl _ _) _) (Nat.le_refl _) _
          refine cut_world (fun X => Whole X P 25 A1 ∧ Below wr.heap.size wr X) ⟨by rw [← hP]; exact setRow_heap _ _ _ _ _ _ (Whole.new _ _ zs), hbel⟩ ?_
          clear hbel
          rintro X ⟨x1, x2⟩
          have HX1 := Lib.hid x1
          have HX2 := Lib.hid x2
          have hwk2 : X.cell? ⟨wb, wo + k, none⟩ = some (.int .u8 (v : Nat)) := (x2.cell (p := ⟨wb, wo + k, none⟩) hwb).trans hwk
          clear x1 x2 hwk
          by_cases h1k : 1 < kk
          · have hd1 : decide (1 < kk) = true := decide_eq_true h1k
            have hd2 : (1 : Int) < (kk : Int) := by omega
            have HB26 := Lib.hid (ap_built2 kk v)
            have HBA6 := Lib.hid (addr_built6 (apF kk v))
            have HAO6 := Lib.hid (addr_one true (apF kk v))
            have HAS := Lib.hid (addr_size true (apF kk v))
            have CA := Lib.hid (fun g b L last D t w (h : LW w g b L last D) => allow_any g b L last D true (apF kk v) (apF_lt (by omega) hfk) t w h)
            rw [ap_place6 h1k hkk4 hfk] at CA
            obtain ⟨R2, hR2⟩ : ∃ R2 : Array Value, (byteCells (apF kk v) 16).toArray = R2 := ⟨_, rfl⟩
            obtain ⟨A, hA⟩ : ∃ A : Array Value, (addrL true (apF kk v)).toArray = A := ⟨_, rfl⟩
            rw [hR2] at HB26 HBA6
            rw [hA] at HBA6 HAO6 HAS CA
            clear hR2 hA
            go_upto_region 15 with (first | (refine wpList_built2 rfl 23 0 15 (.tmp 51) (.tmp 55) rfl (.int .u8 (kk : Nat)) (.int .u8 (v : Nat)) rfl rfl R2 HB26.out ?_) | (refine wpList_built2 rfl 25 0 1 (.const (.bool true)) (.tmp 56) rfl (.bool true) (.agg R2) rfl rfl A HBA6.out ?_) | (refine wpList_store_row rfl 25 (.tmp 11) (.tmp 57) rfl P A rfl rfl 25 _ HX1.out (by rw [HAS.out]; kernel_rfl) (by rw [HAS.out, HAS1.out]) HAO6.out ?_))
            refine cut_world (fun Y => Whole Y P 25 A ∧ Below wr.heap.size wr Y) ⟨setRow_heap _ _ _ _ _ _ HX1.out, below_setRow HX2.out (by omega) _⟩ ?_
            clear HX1 HX2 hwk2 X
            rintro X ⟨x1, x2⟩
            have HXA := Lib.hid x1
            have HLS := Lib.hid (show ∀ j, j < 5 → ∃ D, LW X (G j) (B j) (Ls j) (la j) D from fun j hj => by obtain ⟨D, hd⟩ := HLSr.out j hj; exact ⟨D, hd.below x2⟩)
            have HCGX := Lib.hid (HCG.out.over (x2.mono HCG.out.size))
            have HXT := Lib.hid (show X.cell? ⟨tb, tof + k, none⟩ = some (.int .i64 u) from (x2.cell (p := ⟨tb, tof + k, none⟩) HTSr.out.2).trans HXTr.out)
            have HXO := Lib.hid (Whole.below HXOr.out x2 HXOr.out.lt)
            have HTS := Lib.hid (show ¬ Sb G B tb ∧ tb < X.heap.size from ⟨HTSr.out.1, Nat.lt_of_lt_of_le HTSr.out.2 x2.size⟩)
            have hP0 := hPb 0 (by omega)
            have hPk := hPb (kk + 1) (by omega)
            clear x1 x2 HCG
            have HCG := HCGX
            clear HCGX
            have hlts : ∀ j, j < 5 → G j < X.heap.size ∧ B j < X.heap.size := fun j hj => by obtain ⟨D, hd⟩ := HLS.out j hj; exact ⟨hd.lt.1, hd.lt.2.1⟩
            obtain ⟨r, L0, Lk, e0, e1, hap'⟩ := HAP.out.step hkk4 hok hTt
            obtain ⟨Dz, hlz⟩ := HLS.out 0 (by omega)
            obtain ⟨Dk, hlk⟩ := HLS.out (kk + 1) (by omega)
            have hne := HNE.out 0 (kk + 1) (by omega) (by omega) (by omega)
            have HE0 := Lib.hid e0
            have HE1 := Lib.hid e1
            have HLK := Lib.hid hlk
            have HAP' := Lib.hid hap'
            have hg0k := HG0.out
            have hbnd := hlts 0 (by omega)
            have hbndk := hlts (kk + 1) (by omega)
            rw [hg0k] at hne hbnd
            obtain ⟨gk, hgk⟩ : ∃ gk, G (kk + 1) = gk := ⟨_, rfl⟩
            obtain ⟨bk, hbk⟩ : ∃ bk, B (kk + 1) = bk := ⟨_, rfl⟩
            obtain ⟨bz, hbz⟩ : ∃ bz, B 0 = bz := ⟨_, rfl⟩
            have HRS := Lib.hid (show RdS P A tb (tof + k) u O kk gk X from ⟨HXA.out, HXT.out, by rw [Whole.cell HXO.out, oneC_get G kk hkk4, hgk]⟩)
            rw [hgk, hbk] at HLK hne
            rw [hgk, hbk] at hbndk
            rw [hbz] at hne hbnd
            have hPs : (P ≠ g0 ∧ P ≠ bz) ∧ (P ≠ gk ∧ P ≠ bk) := by rw [hg0k, hbz] at hP0; rw [hgk, hbk] at hPk; omega
            have hts := HTS.out
            have hos := HSO.out
            have htb : (tb ≠ g0 ∧ tb ≠ bz ∧ tb < X.heap.size) ∧ (tb ≠ gk ∧ tb ≠ bk ∧ tb < X.heap.size) := by
              refine ⟨⟨fun e => hts.1 ⟨0, by omega, Or.inl (by rw [hg0k]; exact e)⟩, fun e => hts.1 ⟨0, by omega, Or.inr (by rw [hbz]; exact e)⟩, hts.2⟩, ⟨fun e => hts.1 ⟨kk + 1, by omega, Or.inl (by rw [hgk]; exact e)⟩, fun e => hts.1 ⟨kk + 1, by omega, Or.inr (by rw [hbk]; exact e)⟩, hts.2⟩⟩
            have hob : (O ≠ g0 ∧ O ≠ bz ∧ O < X.heap.size) ∧ (O ≠ gk ∧ O ≠ bk ∧ O < X.heap.size) := by
              have hol := HXO.out.lt
              refine ⟨⟨fun e => hos ⟨0, by omega, Or.inl (by rw [hg0k]; exact e)⟩, fun e => hos ⟨0, by omega, Or.inr (by rw [hbz]; exact e)⟩, hol⟩, ⟨fun e => hos ⟨kk + 1, by omega, Or.inl (by rw [hgk]; exact e)⟩, fun e => hos ⟨kk + 1, by omega, Or.inr (by rw [hbk]; exact e)⟩, hol⟩⟩
            have HZZ := Lib.hid (show LW X g0 bz (Ls 0) (la 0) Dz from by rw [← hg0k, ← hbz]; exact hlz)
            have HTB := Lib.hid htb
            have HOB := Lib.hid hob
            have HPS := Lib.hid hPs
            have HNK := Lib.hid hne
            have HGK := Lib.hid hgk
            have HBK := Lib.hid hbk
            have HBZ := Lib.hid hbz
            clear e0 e1 hap' hlz hlk hne hg0k hbnd hbndk hgk hbk hbz hPs hts hos htb hob hlts
            rcases r with _ | _
            all_goals
              go_upto_region 15 with fail
              have HZD := Lib.hid (show LW X.drew g0 bz (Ls 0) (la 0) Dz from HZZ.out.below (Below.drew (Below.refl _ _)))
              refine region_drew (RdS P A tb (tof + k) u O kk gk) (by kernel_rfl) ⟨HRS.out.a, HRS.out.c, HRS.out.o⟩ (fun hS => ?_)
              refine take 0 _ rfl (by kernel_rfl) (by kernel_rfl) (by kernel_rfl) (fun _ _ _ h => h) (by rfl) hS (by intro w _; go_simp; try with_reducible rfl) ?_
              try simp only [Act.put, List.setIfInBounds_toArray, List.set_cons_zero, List.set_cons_succ]
              refine take 1 _ rfl (by kernel_rfl) (by kernel_rfl) (by kernel_rfl) (fun _ _ _ h => h) (by rfl) hS (fun w hw => run_load_op 25 (.tmp 11) rfl P rfl hw.a rfl rfl (by rw [HAS.out]; kernel_rfl)) ?_
              try simp only [Act.put, List.setIfInBounds_toArray, List.set_cons_zero, List.set_cons_succ]
              refine take 2 _ rfl (by kernel_rfl) (by kernel_rfl) (by kernel_rfl) (fun _ _ _ h => h) (by rfl) hS (by intro w _; go_simp; try with_reducible rfl) ?_
              try simp only [Act.put, List.setIfInBounds_toArray, List.set_cons_zero, List.set_cons_succ]
              refine take 3 _ rfl (by kernel_rfl) (by kernel_rfl) (by kernel_rfl) (fun _ _ _ h => h) (by rfl) hS (by intro w _; go_simp; try with_reducible rfl) ?_
              try simp only [Act.put, List.setIfInBounds_toArray, List.set_cons_zero, List.set_cons_succ]
              refine take 4 _ rfl (by kernel_rfl) (by kernel_rfl) (by kernel_rfl) (fun _ _ _ h => h) (by rfl) hS (by intro w _; go_simp; try with_reducible rfl) ?_
              try simp only [Act.put, List.setIfInBounds_toArray, List.set_cons_zero, List.set_cons_succ]
              refine take 5 _ rfl (by kernel_rfl) (by kernel_rfl) (by kernel_rfl) (fun _ _ _ h => h) (by rfl) hS (by intro w hw; have hcl := hw.c; go_simp; try with_reducible rfl) ?_
              try simp only [Act.put, List.setIfInBounds_toArray, List.set_cons_zero, List.set_cons_succ]
              refine alone 6 rfl (by kernel_rfl) (by rfl) ?_
              intro K hK
              go_simp
              refine (CA.out g0 bz _ _ Dz u X.drew HZD.out).mono ?_
              rintro e X1 ⟨rfl, ⟨D1, hl1⟩, htw⟩
              have hS1 := RdS.two hS htw HPS.out.1 HTB.out.1 HOB.out.1
              rw [HE0.out] at hl1 ⊢
              dsimp only
              refine hK.out _ _ hS1 ?_
              clear hK K hS
              try simp only [Act.put, List.setIfInBounds_toArray, List.set_cons_zero, List.set_cons_succ]
              refine take 7 _ rfl (by kernel_rfl) (by kernel_rfl) (by kernel_rfl) (fun _ _ _ h => h) (by rfl) hS1 (by intro w _; go_simp; try with_reducible rfl) ?_
              try simp only [Act.put, List.setIfInBounds_toArray, List.set_cons_zero, List.set_cons_succ]
              refine take 8 _ rfl (by kernel_rfl) (by kernel_rfl) (by kernel_rfl) (fun _ _ _ h => h) (by rfl) hS1 (by intro w _; go_simp; try with_reducible rfl) ?_
              try simp only [Act.put, List.setIfInBounds_toArray, List.set_cons_zero, List.set_cons_succ]
              refine take 9 _ rfl (by kernel_rfl) (by kernel_rfl) (by kernel_rfl) (fun _ _ _ h => h) (by rfl) hS1 (by intro w _; go_simp; try with_reducible rfl) ?_
              try simp only [Act.put, List.setIfInBounds_toArray, List.set_cons_zero, List.set_cons_succ]
              refine alone 10 rfl (by kernel_rfl) (by rfl) ?_
              intro K hK
              go_simp
              refine hK.out _ _ hS1 ?_
              clear hK K
              try simp only [Act.put, List.setIfInBounds_toArray, List.set_cons_zero, List.set_cons_succ]
              refine alone 11 rfl (by kernel_rfl) (by rfl) ?_
              intro K hK
              go_simp
              refine hK.out _ _ hS1 ?_
              clear hK K
              try simp only [Act.put, List.setIfInBounds_toArray, List.set_cons_zero, List.set_cons_succ]
              refine region_end (by kernel_rfl) ?_
              refine cut_post (F := Exit.then _ _) (fun Y => RdS P A tb (tof + k) u O kk gk Y ∧ LW Y g0 bz L0 u D1 ∧ Two g0 bz X Y) ⟨hS1, hl1, two_drewl htw⟩ ?_
              rintro Y ⟨y1, y2, y3⟩
              have HY1 := Lib.hid y1
              have HY2 := Lib.hid y2
              have HY3 := Lib.hid y3
              clear y1 y2 y3 hS1 hl1 htw X1
              go_upto_region 16 with fail
              refine region_drew (RdS P A tb (tof + k) u O kk gk) (by kernel_rfl) ⟨HY1.out.a, HY1.out.c, HY1.out.o⟩ (fun hS => ?_)
              refine take 0 _ rfl (by kernel_rfl) (by kernel_rfl) (by kernel_rfl) (fun _ _ _ h => h) (by rfl) hS (by intro w _; go_simp; try with_reducible rfl) ?_
              try simp only [Act.put, List.setIfInBounds_toArray, List.set_cons_zero, List.set_cons_succ]
              refine take 1 _ rfl (by kernel_rfl) (by kernel_rfl) (by kernel_rfl) (fun _ _ _ h => h) (by rfl) hS (by intro w _; go_simp; try with_reducible rfl) ?_
              try simp only [Act.put, List.setIfInBounds_toArray, List.set_cons_zero, List.set_cons_succ]
              refine take 2 _ rfl (by kernel_rfl) (by kernel_rfl) (by kernel_rfl) (fun _ _ _ h => h) (by rfl) hS (by intro w hw; have hcl := hw.o; go_simp; try with_reducible rfl) ?_
              try simp only [Act.put, List.setIfInBounds_toArray, List.set_cons_zero, List.set_cons_succ]
              refine take 3 _ rfl (by kernel_rfl) (by kernel_rfl) (by kernel_rfl) (fun _ _ _ h => h) (by rfl) hS (fun w hw => run_load_op 25 (.tmp 11) rfl P rfl hw.a rfl rfl (by rw [HAS.out]; kernel_rfl)) ?_
              try simp only [Act.put, List.setIfInBounds_toArray, List.set_cons_zero, List.set_cons_succ]
              refine take 4 _ rfl (by kernel_rfl) (by kernel_rfl) (by kernel_rfl) (fun _ _ _ h => h) (by rfl) hS (by intro w _; go_simp; try with_reducible rfl) ?_
              try simp only [Act.put, List.setIfInBounds_toArray, List.set_cons_zero, List.set_cons_succ]
              refine take 5 _ rfl (by kernel_rfl) (by kernel_rfl) (by kernel_rfl) (fun _ _ _ h => h) (by rfl) hS (by intro w _; go_simp; try with_reducible rfl) ?_
              try simp only [Act.put, List.setIfInBounds_toArray, List.set_cons_zero, List.set_cons_succ]
              refine take 6 _ rfl (by kernel_rfl) (by kernel_rfl) (by kernel_rfl) (fun _ _ _ h => h) (by rfl) hS (by intro w _; go_simp; try with_reducible rfl) ?_
              try simp only [Act.put, List.setIfInBounds_toArray, List.set_cons_zero, List.set_cons_succ]
              refine take 7 _ rfl (by kernel_rfl) (by kernel_rfl) (by kernel_rfl) (fun _ _ _ h => h) (by rfl) hS (by intro w hw; have hcl := hw.c; go_simp; try with_reducible rfl) ?_
              try simp only [Act.put, List.setIfInBounds_toArray, List.set_cons_zero, List.set_cons_succ]
              have hlk2 : LW Y.drew gk bk (Ls (kk + 1)) (la (kk + 1)) Dk := (HLK.out.two HY3.out HNK.out.1.symm HNK.out.2.2.1.symm HNK.out.2.1.symm HNK.out.2.2.2.symm).below (Below.drew (Below.refl _ _))
              refine alone 8 rfl (by kernel_rfl) (by rfl) ?_
              intro K hK
              go_simp
              refine (CA.out gk bk _ _ Dk u Y.drew hlk2).mono ?_
              rintro e Z ⟨rfl, ⟨D2, hl2⟩, htw⟩
              have hS1 := RdS.two hS htw HPS.out.2 ⟨HTB.out.2.1, HTB.out.2.2.1, Nat.lt_of_lt_of_le HTB.out.2.2.2 HY3.out.size⟩ ⟨HOB.out.2.1, HOB.out.2.2.1, Nat.lt_of_lt_of_le HOB.out.2.2.2 HY3.out.size⟩
              rw [HE1.out] at hl2 ⊢
              dsimp only
              refine hK.out _ _ hS1 ?_
              clear hK K hS
              try simp only [Act.put, List.setIfInBounds_toArray, List.set_cons_zero, List.set_cons_succ]
              refine take 9 _ rfl (by kernel_rfl) (by kernel_rfl) (by kernel_rfl) (fun _ _ _ h => h) (by rfl) hS1 (by intro w _; go_simp; try with_reducible rfl) ?_
              try simp only [Act.put, List.setIfInBounds_toArray, List.set_cons_zero, List.set_cons_succ]
              refine take 10 _ rfl (by kernel_rfl) (by kernel_rfl) (by kernel_rfl) (fun _ _ _ h => h) (by rfl) hS1 (by intro w _; go_simp; try with_reducible rfl) ?_
              try simp only [Act.put, List.setIfInBounds_toArray, List.set_cons_zero, List.set_cons_succ]
              refine take 11 _ rfl (by kernel_rfl) (by kernel_rfl) (by kernel_rfl) (fun _ _ _ h => h) (by rfl) hS1 (by intro w _; go_simp; try with_reducible rfl) ?_
              try simp only [Act.put, List.setIfInBounds_toArray, List.set_cons_zero, List.set_cons_succ]
              refine alone 12 rfl (by kernel_rfl) (by rfl) ?_
              intro K hK
              go_simp
              refine hK.out _ _ hS1 ?_
              clear hK K
              try simp only [Act.put, List.setIfInBounds_toArray, List.set_cons_zero, List.set_cons_succ]
              refine alone 13 rfl (by kernel_rfl) (by rfl) ?_
              intro K hK
              go_simp
              refine hK.out _ _ hS1 ?_
              clear hK K
              try simp only [Act.put, List.setIfInBounds_toArray, List.set_cons_zero, List.set_cons_succ]
              refine region_end (by kernel_rfl) ?_
              have HZ := Lib.hid (show I2 G B (apK Try.prog 57) W2 (tS l (k + 1)) Z from by
                have htw2 := two_drewl htw
                refine ⟨(HCG.out.two HY3.out ⟨0, by omega, Or.inl HG0.out.symm⟩ ⟨0, by omega, Or.inr HBZ.out.symm⟩).two htw2 ⟨kk + 1, by omega, Or.inl HGK.out.symm⟩ ⟨kk + 1, by omega, Or.inr HBK.out.symm⟩, _, _, by rw [HU.out]; exact HAP'.out, fun j hj => ?_⟩
                by_cases j0 : j = 0
                · subst j0
                  rw [upd2_0, upd2_0, HG0.out, HBZ.out]
                  exact ⟨D1, (HY2.out.two htw2 HNK.out.1 HNK.out.2.1 HNK.out.2.2.1 HNK.out.2.2.2)⟩
                · by_cases j1 : j = kk + 1
                  · subst j1
                    rw [upd2_k, upd2_k, HGK.out, HBK.out]
                    exact ⟨D2, hl2⟩
                  · rw [upd2_o _ _ _ _ j0 j1, upd2_o _ _ _ _ j0 j1]
                    obtain ⟨D, hd⟩ := HLS.out j hj
                    have n0 := HNE.out j 0 (by omega) (by omega) j0
                    have nk := HNE.out j (kk + 1) (by omega) (by omega) j1
                    rw [HG0.out, HBZ.out] at n0
                    rw [HGK.out, HBK.out] at nk
                    exact ⟨D, (hd.two HY3.out n0.1 n0.2.1 n0.2.2.1 n0.2.2.2).two htw2 nk.1 nk.2.1 nk.2.2.1 nk.2.2.2⟩)
              refine cut_post (F := Exit.then _ _) (fun V => I2 G B (apK Try.prog 57) W2 (tS l (k + 1)) V) HZ.out ?_
              clear hS1 hl2 htw HZ Z
              intro V hV
              have HV := Lib.hid hV
              clear hV
              go_wp2_with fail
              go_roundw
              case rel => exact ⟨k + 1, by omega, by go_num, HV.out⟩
              case measure => simp [intOf]; omega
          · have hd1 : decide (1 < kk) = false := decide_eq_false h1k
            have hd2 : ¬ (1 : Int) < (kk : Int) := by omega
            have CA := Lib.hid (fun g b L last D t w (h : LW w g b L last D) => allow_any g b L last D false (apF kk 0) (apF_lt (by omega) (by omega)) t w h)
            rw [ap_place4 (by omega : kk < 2), HA1.out] at CA
            obtain ⟨A, hA⟩ : ∃ A : Array Value, A1 = A := ⟨_, rfl⟩
            rw [hA] at CA HX1 HAS1
            have HAS := HAS1
            have x1 := HX1.out
            have x2 := HX2.out
            clear HX1 HX2 hA
            have HXA := Lib.hid x1
            have HLS := Lib.hid (show ∀ j, j < 5 → ∃ D, LW X (G j) (B j) (Ls j) (la j) D from fun j hj => by obtain ⟨D, hd⟩ := HLSr.out j hj; exact ⟨D, hd.below x2⟩)
            have HCGX := Lib.hid (HCG.out.over (x2.mono HCG.out.size))
            have HXT := Lib.hid (show X.cell? ⟨tb, tof + k, none⟩ = some (.int .i64 u) from (x2.cell (p := ⟨tb, tof + k, none⟩) HTSr.out.2).trans HXTr.out)
            have HXO := Lib.hid (Whole.below HXOr.out x2 HXOr.out.lt)
            have HTS := Lib.hid (show ¬ Sb G B tb ∧ tb < X.heap.size from ⟨HTSr.out.1, Nat.lt_of_lt_of_le HTSr.out.2 x2.size⟩)
            have hP0 := hPb 0 (by omega)
            have hPk := hPb (kk + 1) (by omega)
            clear x1 x2 HCG
            have HCG := HCGX
            clear HCGX
            have hlts : ∀ j, j < 5 → G j < X.heap.size ∧ B j < X.heap.size := fun j hj => by obtain ⟨D, hd⟩ := HLS.out j hj; exact ⟨hd.lt.1, hd.lt.2.1⟩
            obtain ⟨r, L0, Lk, e0, e1, hap'⟩ := HAP.out.step hkk4 hok hTt
            obtain ⟨Dz, hlz⟩ := HLS.out 0 (by omega)
            obtain ⟨Dk, hlk⟩ := HLS.out (kk + 1) (by omega)
            have hne := HNE.out 0 (kk + 1) (by omega) (by omega) (by omega)
            have HE0 := Lib.hid e0
            have HE1 := Lib.hid e1
            have HLK := Lib.hid hlk
            have HAP' := Lib.hid hap'
            have hg0k := HG0.out
            have hbnd := hlts 0 (by omega)
            have hbndk := hlts (kk + 1) (by omega)
            rw [hg0k] at hne hbnd
            obtain ⟨gk, hgk⟩ : ∃ gk, G (kk + 1) = gk := ⟨_, rfl⟩
            obtain ⟨bk, hbk⟩ : ∃ bk, B (kk + 1) = bk := ⟨_, rfl⟩
            obtain ⟨bz, hbz⟩ : ∃ bz, B 0 = bz := ⟨_, rfl⟩
            have HRS := Lib.hid (show RdS P A tb (tof + k) u O kk gk X from ⟨HXA.out, HXT.out, by rw [Whole.cell HXO.out, oneC_get G kk hkk4, hgk]⟩)
            rw [hgk, hbk] at HLK hne
            rw [hgk, hbk] at hbndk
            rw [hbz] at hne hbnd
            have hPs : (P ≠ g0 ∧ P ≠ bz) ∧ (P ≠ gk ∧ P ≠ bk) := by rw [hg0k, hbz] at hP0; rw [hgk, hbk] at hPk; omega
            have hts := HTS.out
            have hos := HSO.out
            have htb : (tb ≠ g0 ∧ tb ≠ bz ∧ tb < X.heap.size) ∧ (tb ≠ gk ∧ tb ≠ bk ∧ tb < X.heap.size) := by
              refine ⟨⟨fun e => hts.1 ⟨0, by omega, Or.inl (by rw [hg0k]; exact e)⟩, fun e => hts.1 ⟨0, by omega, Or.inr (by rw [hbz]; exact e)⟩, hts.2⟩, ⟨fun e => hts.1 ⟨kk + 1, by omega, Or.inl (by rw [hgk]; exact e)⟩, fun e => hts.1 ⟨kk + 1, by omega, Or.inr (by rw [hbk]; exact e)⟩, hts.2⟩⟩
            have hob : (O ≠ g0 ∧ O ≠ bz ∧ O < X.heap.size) ∧ (O ≠ gk ∧ O ≠ bk ∧ O < X.heap.size) := by
              have hol := HXO.out.lt
              refine ⟨⟨fun e => hos ⟨0, by omega, Or.inl (by rw [hg0k]; exact e)⟩, fun e => hos ⟨0, by omega, Or.inr (by rw [hbz]; exact e)⟩, hol⟩, ⟨fun e => hos ⟨kk + 1, by omega, Or.inl (by rw [hgk]; exact e)⟩, fun e => hos ⟨kk + 1, by omega, Or.inr (by rw [hbk]; exact e)⟩, hol⟩⟩
            have HZZ := Lib.hid (show LW X g0 bz (Ls 0) (la 0) Dz from by rw [← hg0k, ← hbz]; exact hlz)
            have HTB := Lib.hid htb
            have HOB := Lib.hid hob
            have HPS := Lib.hid hPs
            have HNK := Lib.hid hne
            have HGK := Lib.hid hgk
            have HBK := Lib.hid hbk
            have HBZ := Lib.hid hbz
            clear e0 e1 hap' hlz hlk hne hg0k hbnd hbndk hgk hbk hbz hPs hts hos htb hob hlts
            rcases r with _ | _
            all_goals
              go_upto_region 15 with fail
              have HZD := Lib.hid (show LW X.drew g0 bz (Ls 0) (la 0) Dz from HZZ.out.below (Below.drew (Below.refl _ _)))
              refine region_drew (RdS P A tb (tof + k) u O kk gk) (by kernel_rfl) ⟨HRS.out.a, HRS.out.c, HRS.out.o⟩ (fun hS => ?_)
              refine take 0 _ rfl (by kernel_rfl) (by kernel_rfl) (by kernel_rfl) (fun _ _ _ h => h) (by rfl) hS (by intro w _; go_simp; try with_reducible rfl) ?_
              try simp only [Act.put, List.setIfInBounds_toArray, List.set_cons_zero, List.set_cons_succ]
              refine take 1 _ rfl (by kernel_rfl) (by kernel_rfl) (by kernel_rfl) (fun _ _ _ h => h) (by rfl) hS (fun w hw => run_load_op 25 (.tmp 11) rfl P rfl hw.a rfl rfl (by rw [HAS.out]; kernel_rfl)) ?_
              try simp only [Act.put, List.setIfInBounds_toArray, List.set_cons_zero, List.set_cons_succ]
              refine take 2 _ rfl (by kernel_rfl) (by kernel_rfl) (by kernel_rfl) (fun _ _ _ h => h) (by rfl) hS (by intro w _; go_simp; try with_reducible rfl) ?_
              try simp only [Act.put, List.setIfInBounds_toArray, List.set_cons_zero, List.set_cons_succ]
              refine take 3 _ rfl (by kernel_rfl) (by kernel_rfl) (by kernel_rfl) (fun _ _ _ h => h) (by rfl) hS (by intro w _; go_simp; try with_reducible rfl) ?_
              try simp only [Act.put, List.setIfInBounds_toArray, List.set_cons_zero, List.set_cons_succ]
              refine take 4 _ rfl (by kernel_rfl) (by kernel_rfl) (by kernel_rfl) (fun _ _ _ h => h) (by rfl) hS (by intro w _; go_simp; try with_reducible rfl) ?_
              try simp only [Act.put, List.setIfInBounds_toArray, List.set_cons_zero, List.set_cons_succ]
              refine take 5 _ rfl (by kernel_rfl) (by kernel_rfl) (by kernel_rfl) (fun _ _ _ h => h) (by rfl) hS (by intro w hw; have hcl := hw.c; go_simp; try with_reducible rfl) ?_
              try simp only [Act.put, List.setIfInBounds_toArray, List.set_cons_zero, List.set_cons_succ]
              refine alone 6 rfl (by kernel_rfl) (by rfl) ?_
              intro K hK
              go_simp
              refine (CA.out g0 bz _ _ Dz u X.drew HZD.out).mono ?_
              rintro e X1 ⟨rfl, ⟨D1, hl1⟩, htw⟩
              have hS1 := RdS.two hS htw HPS.out.1 HTB.out.1 HOB.out.1
              rw [HE0.out] at hl1 ⊢
              dsimp only
              refine hK.out _ _ hS1 ?_
              clear hK K hS
              try simp only [Act.put, List.setIfInBounds_toArray, List.set_cons_zero, List.set_cons_succ]
              refine take 7 _ rfl (by kernel_rfl) (by kernel_rfl) (by kernel_rfl) (fun _ _ _ h => h) (by rfl) hS1 (by intro w _; go_simp; try with_reducible rfl) ?_
              try simp only [Act.put, List.setIfInBounds_toArray, List.set_cons_zero, List.set_cons_succ]
              refine take 8 _ rfl (by kernel_rfl) (by kernel_rfl) (by kernel_rfl) (fun _ _ _ h => h) (by rfl) hS1 (by intro w _; go_simp; try with_reducible rfl) ?_
              try simp only [Act.put, List.setIfInBounds_toArray, List.set_cons_zero, List.set_cons_succ]
              refine take 9 _ rfl (by kernel_rfl) (by kernel_rfl) (by kernel_rfl) (fun _ _ _ h => h) (by rfl) hS1 (by intro w _; go_simp; try with_reducible rfl) ?_
              try simp only [Act.put, List.setIfInBounds_toArray, List.set_cons_zero, List.set_cons_succ]
              refine alone 10 rfl (by kernel_rfl) (by rfl) ?_
              intro K hK
              go_simp
              refine hK.out _ _ hS1 ?_
              clear hK K
              try simp only [Act.put, List.setIfInBounds_toArray, List.set_cons_zero, List.set_cons_succ]
              refine alone 11 rfl (by kernel_rfl) (by rfl) ?_
              intro K hK
              go_simp
              refine hK.out _ _ hS1 ?_
              clear hK K
              try simp only [Act.put, List.setIfInBounds_toArray, List.set_cons_zero, List.set_cons_succ]
              refine region_end (by kernel_rfl) ?_
              refine cut_post (F := Exit.then _ _) (fun Y => RdS P A tb (tof + k) u O kk gk Y ∧ LW Y g0 bz L0 u D1 ∧ Two g0 bz X Y) ⟨hS1, hl1, two_drewl htw⟩ ?_
              rintro Y ⟨y1, y2, y3⟩
              have HY1 := Lib.hid y1
              have HY2 := Lib.hid y2
              have HY3 := Lib.hid y3
              clear y1 y2 y3 hS1 hl1 htw X1
              go_upto_region 16 with fail
              refine region_drew (RdS P A tb (tof + k) u O kk gk) (by kernel_rfl) ⟨HY1.out.a, HY1.out.c, HY1.out.o⟩ (fun hS => ?_)
              refine take 0 _ rfl (by kernel_rfl) (by kernel_rfl) (by kernel_rfl) (fun _ _ _ h => h) (by rfl) hS (by intro w _; go_simp; try with_reducible rfl) ?_
              try simp only [Act.put, List.setIfInBounds_toArray, List.set_cons_zero, List.set_cons_succ]
              refine take 1 _ rfl (by kernel_rfl) (by kernel_rfl) (by kernel_rfl) (fun _ _ _ h => h) (by rfl) hS (by intro w _; go_simp; try with_reducible rfl) ?_
              try simp only [Act.put, List.setIfInBounds_toArray, List.set_cons_zero, List.set_cons_succ]
              refine take 2 _ rfl (by kernel_rfl) (by kernel_rfl) (by kernel_rfl) (fun _ _ _ h => h) (by rfl) hS (by intro w hw; have hcl := hw.o; go_simp; try with_reducible rfl) ?_
              try simp only [Act.put, List.setIfInBounds_toArray, List.set_cons_zero, List.set_cons_succ]
              refine take 3 _ rfl (by kernel_rfl) (by kernel_rfl) (by kernel_rfl) (fun _ _ _ h => h) (by rfl) hS (fun w hw => run_load_op 25 (.tmp 11) rfl P rfl hw.a rfl rfl (by rw [HAS.out]; kernel_rfl)) ?_
              try simp only [Act.put, List.setIfInBounds_toArray, List.set_cons_zero, List.set_cons_succ]
              refine take 4 _ rfl (by kernel_rfl) (by kernel_rfl) (by kernel_rfl) (fun _ _ _ h => h) (by rfl) hS (by intro w _; go_simp; try with_reducible rfl) ?_
              try simp only [Act.put, List.setIfInBounds_toArray, List.set_cons_zero, List.set_cons_succ]
              refine take 5 _ rfl (by kernel_rfl) (by kernel_rfl) (by kernel_rfl) (fun _ _ _ h => h) (by rfl) hS (by intro w _; go_simp; try with_reducible rfl) ?_
              try simp only [Act.put, List.setIfInBounds_toArray, List.set_cons_zero, List.set_cons_succ]
              refine take 6 _ rfl (by kernel_rfl) (by kernel_rfl) (by kernel_rfl) (fun _ _ _ h => h) (by rfl) hS (by intro w _; go_simp; try with_reducible rfl) ?_
              try simp only [Act.put, List.setIfInBounds_toArray, List.set_cons_zero, List.set_cons_succ]
              refine take 7 _ rfl (by kernel_rfl) (by kernel_rfl) (by kernel_rfl) (fun _ _ _ h => h) (by rfl) hS (by intro w hw; have hcl := hw.c; go_simp; try with_reducible rfl) ?_
              try simp only [Act.put, List.setIfInBounds_toArray, List.set_cons_zero, List.set_cons_succ]
              have hlk2 : LW Y.drew gk bk (Ls (kk + 1)) (la (kk + 1)) Dk := (HLK.out.two HY3.out HNK.out.1.symm HNK.out.2.2.1.symm HNK.out.2.1.symm HNK.out.2.2.2.symm).below (Below.drew (Below.refl _ _))
              refine alone 8 rfl (by kernel_rfl) (by rfl) ?_
              intro K hK
              go_simp
              refine (CA.out gk bk _ _ Dk u Y.drew hlk2).mono ?_
              rintro e Z ⟨rfl, ⟨D2, hl2⟩, htw⟩
              have hS1 := RdS.two hS htw HPS.out.2 ⟨HTB.out.2.1, HTB.out.2.2.1, Nat.lt_of_lt_of_le HTB.out.2.2.2 HY3.out.size⟩ ⟨HOB.out.2.1, HOB.out.2.2.1, Nat.lt_of_lt_of_le HOB.out.2.2.2 HY3.out.size⟩
              rw [HE1.out] at hl2 ⊢
              dsimp only
              refine hK.out _ _ hS1 ?_
              clear hK K hS
              try simp only [Act.put, List.setIfInBounds_toArray, List.set_cons_zero, List.set_cons_succ]
              refine take 9 _ rfl (by kernel_rfl) (by kernel_rfl) (by kernel_rfl) (fun _ _ _ h => h) (by rfl) hS1 (by intro w _; go_simp; try with_reducible rfl) ?_
              try simp only [Act.put, List.setIfInBounds_toArray, List.set_cons_zero, List.set_cons_succ]
              refine take 10 _ rfl (by kernel_rfl) (by kernel_rfl) (by kernel_rfl) (fun _ _ _ h => h) (by rfl) hS1 (by intro w _; go_simp; try with_reducible rfl) ?_
              try simp only [Act.put, List.setIfInBounds_toArray, List.set_cons_zero, List.set_cons_succ]
              refine take 11 _ rfl (by kernel_rfl) (by kernel_rfl) (by kernel_rfl) (fun _ _ _ h => h) (by rfl) hS1 (by intro w _; go_simp; try with_reducible rfl) ?_
              try simp only [Act.put, List.setIfInBounds_toArray, List.set_cons_zero, List.set_cons_succ]
              refine alone 12 rfl (by kernel_rfl) (by rfl) ?_
              intro K hK
              go_simp
              refine hK.out _ _ hS1 ?_
              clear hK K
              try simp only [Act.put, List.setIfInBounds_toArray, List.set_cons_zero, List.set_cons_succ]
              refine alone 13 rfl (by kernel_rfl) (by rfl) ?_
              intro K hK
              go_simp
              refine hK.out _ _ hS1 ?_
              clear hK K
              try simp only [Act.put, List.setIfInBounds_toArray, List.set_cons_zero, List.set_cons_succ]
              refine region_end (by kernel_rfl) ?_
              have HZ := Lib.hid (show I2 G B (apK Try.prog 57) W2 (tS l (k + 1)) Z from by
                have htw2 := two_drewl htw
                refine ⟨(HCG.out.two HY3.out ⟨0, by omega, Or.inl HG0.out.symm⟩ ⟨0, by omega, Or.inr HBZ.out.symm⟩).two htw2 ⟨kk + 1, by omega, Or.inl HGK.out.symm⟩ ⟨kk + 1, by omega, Or.inr HBK.out.symm⟩, _, _, by rw [HU.out]; exact HAP'.out, fun j hj => ?_⟩
                by_cases j0 : j = 0
                · subst j0
                  rw [upd2_0, upd2_0, HG0.out, HBZ.out]
                  exact ⟨D1, (HY2.out.two htw2 HNK.out.1 HNK.out.2.1 HNK.out.2.2.1 HNK.out.2.2.2)⟩
                · by_cases j1 : j = kk + 1
                  · subst j1
                    rw [upd2_k, upd2_k, HGK.out, HBK.out]
                    exact ⟨D2, hl2⟩
                  · rw [upd2_o _ _ _ _ j0 j1, upd2_o _ _ _ _ j0 j1]
                    obtain ⟨D, hd⟩ := HLS.out j hj
                    have n0 := HNE.out j 0 (by omega) (by omega) j0
                    have nk := HNE.out j (kk + 1) (by omega) (by omega) j1
                    rw [HG0.out, HBZ.out] at n0
                    rw [HGK.out, HBK.out] at nk
                    exact ⟨D, (hd.two HY3.out n0.1 n0.2.1 n0.2.2.1 n0.2.2.2).two htw2 nk.1 nk.2.1 nk.2.2.1 nk.2.2.2⟩)
              refine cut_post (F := Exit.then _ _) (fun V => I2 G B (apK Try.prog 57) W2 (tS l (k + 1)) V) HZ.out ?_
              clear hS1 hl2 htw HZ Z
              intro V hV
              have HV := Lib.hid hV
              clear hV
              go_wp2_with fail
              go_roundw
              case rel => exact ⟨k + 1, by omega, by go_num, HV.out⟩
              case measure => simp [intOf]; omega
        · have hnot : decide (k < m) = false ∨ (k < m ∧ decide (k < n1) = false) := by
            by_cases h1 : k < m
            · exact Or.inr ⟨h1, decide_eq_false (fun h => hgo ⟨h1, h⟩)⟩
            · exact Or.inl (decide_eq_false h1)
          obtain ⟨Ls, la, hap, hls⟩ := H2r.out.st
          obtain ⟨D, hl⟩ := hls 0 (by omega)
          have HCT := Lib.hid (fun (X : World) (hb : Below wr.heap.size wr X) => count_any _ _ _ _ D X (hl.below hb))
          have h4 := hap.all4
          rw [HG0.out] at HCT
          have HBF := Lib.hid (HB2.out.trans (H2r.out.chg.below HB2.out.size HSg.out))
          have HAL := Lib.hid (alive_ok wr)
          obtain ⟨q, hq⟩ : ∃ q, (Ls 0).length = q := ⟨_, rfl⟩
          rw [hq] at HCT h4
          clear hap hls hl hq hgo
          have h4' : (q : Int) ≤ 4 := by omega
          rcases hnot with h1 | ⟨h0, h1⟩
          all_goals
            first | (have h2 : ¬ k < m := of_decide_eq_false h1) | (have h2 : ¬ k < n1 := of_decide_eq_false h1)
            go_wp2_with fail
            refine HAL.out.mono ?_
            rintro e X1 ⟨rfl, hbx⟩
            have HC1 := Lib.hid (HCT.out X1 hbx)
            have HB4 := Lib.hid (below_trans HBF.out hbx)
            clear hbx
            go_wp2_with fail
            refine HC1.out.mono ?_
            rintro e X2 ⟨rfl, rfl⟩
            go_wp2_with fail
            go_ret
            exact ⟨rfl, HB4.out⟩
end LimiterApart
end Go.Proofs.Ytlccgplgbokgkaa
