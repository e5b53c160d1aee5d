/- 'aditlaw07.BlakeWrites' returns true at every input and writes nothing that was there: the walk. The condition: the tables read as the program's text lays them. -/
import Derived.Test.YtcoppcididemkaaDoorBlakeAlive
import Derived.Test.YtcoppcididemkaaDoorRefTotal
import Derived.Test.YtcoppcididemkaaDoorSlices
namespace Go.Proofs.YtcoppcididemkaaDoor
namespace BlakeWrites
open Go.ChangeShapes Go.WideShapes Go.ChangeAt Go.RowKit
open Num Mem Words State Chacha Quiet Blake Ref RefB

theorem row_src {w : World} {A : Option Addr} {n c : Nat} {zs : List Int} (h : IsRow .u8 w A n c zs) : ∃ f : Nat → Nat, (∀ i, f i < 256) ∧ Rd w A n f ∧ n ≤ c ∧ Src w A n c f := by
  obtain ⟨f, h1, h2, h3, _⟩ := rd_of_row h
  refine ⟨f, h1, h2, h3, src_rd h2 fun e => ?_⟩
  rcases h with ⟨_, h4, h5, _⟩ | ⟨x, h4, _⟩
  · exact ⟨h4, h5⟩
  · rw [e] at h4
    cases h4

/-- n bytes, whatever they are, in a block that is known whole -/
def Bytes (X : World) (b n : Nat) : Prop := ∃ (cs : Array Value) (t : TypeId), Whole X b t cs ∧ ∀ i, i < n → ∃ v : Nat, v < 256 ∧ cs[i]? = some (.int .u8 (v : Nat))
theorem Bytes.of_whole {X : World} {b n : Nat} {t : TypeId} {F : Nat → Nat} (h : Whole X b t (byteCells F n).toArray) (hF : ∀ i, F i < 256) : Bytes X b n :=
  ⟨_, _, h, fun i hi => ⟨F i, hF i, by rw [List.getElem?_toArray]; exact byteCells_get F n i hi⟩⟩
theorem Bytes.of_own {X : World} {B t b n c : Nat} {F : Nat → Nat} (h : Own X B t (some ⟨b, 0, none⟩) n c F) (hF : ∀ i, F i < 256) : Bytes X b n := by
  have h0 : X.ownsRow B t 1 (.slice (some ⟨b, 0, none⟩) n c) n (byteCells F n) := h
  rcases h.2 with ⟨e, _⟩ | ⟨b', cap, cur, e, _, hh, _⟩
  · cases e
  · injection e with e1 _ _
    injection e1 with e1
    injection e1 with e1
    subst e1
    refine ⟨_, _, hh, fun i hi => ⟨F i, hF i, ?_⟩⟩
    have h2 := h0.cellAt i (by omega)
    rw [byteCells_get F n i hi] at h2
    rw [← h2]
    exact (cell_of_row _ _ _ _ t (0, 0) hh).symm
theorem Bytes.cell {X : World} {b n : Nat} (h : Bytes X b n) (i : Nat) (hi : i < n) : ∃ v : Nat, v < 256 ∧ X.cell? ⟨b, i, none⟩ = some (.int .u8 (v : Nat)) ∧ X.frozen? ⟨b, i, none⟩ = false := by
  obtain ⟨cs, t, hw, hc⟩ := h
  obtain ⟨v, hv, e⟩ := hc i hi
  exact ⟨v, hv, by rw [Whole.cell hw]; exact e, Whole.free hw i⟩
theorem Bytes.put {X : World} {b n : Nat} (h : Bytes X b n) (i v : Nat) (hv : v < 256) : Bytes (X.setCell ⟨b, i, none⟩ (.int .u8 (v : Nat))) b n := by
  obtain ⟨cs, t, hw, hc⟩ := h
  refine ⟨_, t, Whole.put hw i _, fun j hj => ?_⟩
  obtain ⟨u, hu, e⟩ := hc j hj
  by_cases hij : i = j
  · subst hij
    refine ⟨v, hv, ?_⟩
    have hlt : i < cs.size := by
      rcases Nat.lt_or_ge i cs.size with h1 | h1
      · exact h1
      · rw [Array.getElem?_eq_none h1] at e
        cases e
    rw [Array.getElem?_setIfInBounds_self_of_lt hlt]
  · exact ⟨u, hu, by rw [Array.getElem?_setIfInBounds_ne hij]; exact e⟩
/-- what may have changed in a block b alone -/
structure Turn (X : World) (b n : Nat) (Y : World) : Prop where
  grown : X.grownBy Y (some b)
  bytes : 0 < n → Bytes Y b n
theorem Turn.put {X Y : World} {b n : Nat} (h : Turn X b n Y) (i v : Nat) (hv : v < 256) : Turn X b n (Y.setCell ⟨b, i, none⟩ (.int .u8 (v : Nat))) :=
  ⟨grown_trans h.grown (grown_set Y b i _), fun h0 => (h.bytes h0).put i v hv⟩

/-- a hash on its way at g, and the row of all that was written -/
structure On (w : World) (g s : Nat) (S0 : List Nat) (T : Nat → Nat) (N : Nat) (A : Option Addr) (n c : Nat) (f : Nat → Nat) (X : World) : Prop where
  hash : HashOf X g s S0 T N
  all : Own X w.heap.size 5 A n c f
  apart : ∀ b o, A = some ⟨b, o, none⟩ → b ≠ g
  laid : Laid w
  bel : Below w.heap.size w X
  low : w.heap.size ≤ g
  lt : ∀ i, f i < 256
section
variable {w X Y : World} {g s N n c b : Nat} {S0 : List Nat} {T f : Nat → Nat} {A : Option Addr}
theorem On.glt (h : On w g s S0 T N A n c f X) : g < X.heap.size := HashAt.lt h.hash
theorem On.lay (h : On w g s S0 T N A n c f X) : Laid X := laid_below h.laid h.bel
theorem On.alt (h : On w g s S0 T N A n c f X) : ∀ b o, A = some ⟨b, o, none⟩ → b < X.heap.size := by
  intro b o e
  rcases own_at h.all with h0 | ⟨g2, e2, _, hlt⟩
  · rw [h0] at e
    cases e
  · rw [e2] at e
    injection e with e
    injection e with e
    omega
theorem On.below (h : On w g s S0 T N A n c f X) (hb : Below X.heap.size X Y) : On w g s S0 T N A n c f Y :=
  ⟨HashAt.below h.hash hb h.glt, h.all.below hb (Nat.le_refl _), h.apart, h.laid, below_trans h.bel hb, h.low, h.lt⟩
theorem On.grown (h : On w g s S0 T N A n c f X) (hb : X.grownBy Y (some b)) (hg : b ≠ g) (hw : w.heap.size ≤ b) (ha : ∀ b' o, A = some ⟨b', o, none⟩ → b' ≠ b) : On w g s S0 T N A n c f Y :=
  ⟨HashAt.grown h.hash hb (fun e => hg e.symm), Own.grown (A := some ⟨b, 0, none⟩) (k := 0) (c := 0) h.all hb (fun x x' e e' k => by
    injection e with e
    subst e
    obtain ⟨b', o, sp⟩ := x'
    rcases own_at h.all with h0 | ⟨g2, e2, _, _⟩
    · rw [h0] at e'
      cases e'
    · rw [e2] at e'
      injection e' with e'
      injection e' with e1 _ _
      exact ha g2 0 e2 (e1.trans k.symm)), h.apart, h.laid, RefB.below_grown h.bel hb hw h.bel.size, h.low, h.lt⟩
theorem On.write {T' : Nat → Nat} {N' : Nat} (h : On w g s S0 T N A n c f X) (hb : X.grownBy Y (some g)) (hh : HashOf Y g s S0 T' N') : On w g s S0 T' N' A n c f Y :=
  ⟨hh, Own.grown (A := some ⟨g, 0, none⟩) (k := 0) (c := 0) h.all hb (fun x x' e e' k => by
    injection e with e
    subst e
    rcases own_at h.all with h0 | ⟨g2, e2, _, _⟩
    · rw [h0] at e'
      cases e'
    · rw [e2] at e'
      injection e' with e'
      subst e'
      exact h.apart g2 0 e2 k.symm), h.apart, h.laid, RefB.below_grown h.bel hb h.low h.bel.size, h.low, h.lt⟩
/-- a row that is appended to the row of all -/
theorem On.append {A5 : Option Addr} {n5 c5 : Nat} {f5 : Nat → Nat} (h : On w g s S0 T N A n c f X) (h1 : Own Y w.heap.size 5 A5 n5 c5 f5) (h2 : Below w.heap.size w Y) (h4 : X.grownBy Y (Value.slice A n c).ownBlock) (h5 : (Value.slice A5 n5 c5).ownBlock = (Value.slice A n c).ownBlock ∨ (Value.slice A5 n5 c5).ownBlock = some X.heap.size) (hf : ∀ i, f5 i < 256) : On w g s S0 T N A5 n5 c5 f5 Y := by
  have hne : ¬ (some g = (Value.slice A n c).ownBlock) := by
    intro e
    rcases own_at h.all with h0 | ⟨g2, e2, _, _⟩
    · rw [h0] at e
      cases e
    · rw [e2] at e
      have e : some g = some g2 := e
      injection e with e
      exact h.apart g2 0 e2 e.symm
  refine ⟨(h4.block g h.glt hne).trans h.hash, h1, ?_, h.laid, h2, h.low, hf⟩
  intro b o e e2
  subst e e2
  rcases own_at h1 with h0 | ⟨g2, e2, _, _⟩
  · cases h0
  · have e3 : (Value.slice (some ⟨b, o, none⟩) n5 c5).ownBlock = some b := by
      injection e2 with e2
      injection e2 with e2 e4 _
      subst e4
      rfl
    rw [e3] at h5
    rcases h5 with h5 | h5
    · exact hne h5
    · injection h5 with h5
      have := h.glt
      omega
end

theorem text_more (key f F : Nat → Nat) (k n i : Nat) : (if i < keyLen k + n then withKey key k f i else F (i - (keyLen k + n))) = withKey key k (fun i => if i < n then f i else F (i - n)) i := by
  unfold withKey keyLen
  by_cases h : k = 0
  · rw [if_pos h, if_pos h, if_pos h, Nat.zero_add]
  · rw [if_neg h, if_neg h, if_neg h]
    by_cases h1 : i < 64
    · rw [if_pos h1, if_pos h1, if_pos (by omega)]
    · rw [if_neg h1, if_neg h1]
      show (if i < 64 + n then f (i - 64) else F (i - (64 + n))) = if i - 64 < n then f (i - 64) else F (i - 64 - n)
      by_cases h2 : i < 64 + n
      · rw [if_pos h2, if_pos (by omega)]
      · rw [if_neg h2, if_neg (by omega), Nat.sub_add_eq]

def Done (w : World) (e : Ending) (w' : World) : Prop := e = .returned (.bool true) ∧ Below w.heap.size w w'

set_option maxRecDepth 100000 in
set_option maxHeartbeats 4000000 in
theorem good (s : Nat) (hs1 : 1 ≤ s) (hs2 : s ≤ 32) (A : Option Addr) (k c : Nat) (hk : k ≤ 32) (key : Nat → Nat) (hkey : ∀ i, key i < 256) (P : Option Addr) (K c2 : Nat) (PA : Nat → Option Addr) (PN PC : Nat → Nat) (PF : Nat → Nat → Nat) (hK : K ≤ 12) (w : World) (hL : Laid w) (hA : Rd w A k key) (hSA : Src w A k c key) (hP : Arr.IsSlices w P K c2 PA PN PC PF) :
    Calls Tryd.prog 3 #[.int .i64 s, .slice A k c, .slice P K c2] w (Done w) := by
  have d1 : decide ((12 : Int) < (K : Int)) = false := decide_eq_false (by omega)
  have d2 : decide ((100 : Int) < (k : Int)) = false := decide_eq_false (by omega)
  have HK := Lib.hid hkey
  have HL := Lib.hid hL
  have HA := Lib.hid hA
  have HSA := Lib.hid hSA
  have HP := Lib.hid hP
  have C1 := Lib.hid (new_any s A k c key (fun _ => 0) hs1 hs2 hk)
  have D1 := Lib.hid (sum_ref s A none k c 0 0 key (fun _ => 0) hs1 hs2 hk HK.out (fun _ => by omega) (by omega))
  have HS0 := Lib.hid (firstL_length s k)
  have HF0 := Lib.hid (firstL_fits s k hs2 hk)
  have hkl := keyLen_le k
  clear hkey hL hA hSA hP
  go_enter Tryd.func3, Tryd.ntmps3
  go_wp2_with fail
  refine (C1.out w HL.out HA.out).mono ?_
  rintro e w1 ⟨rfl, h1, hb1⟩
  have HO := Lib.hid (show On w w.heap.size s (firstL s k) (withKey key k fun _ => 0) (keyLen k + 0) none 0 0 (fun _ => 0) w1 from ⟨h1, Own.nil _ _ _ _, fun _ _ e => (by cases e), HL.out, hb1, Nat.le_refl _, fun _ => by omega⟩)
  have HS1 := Lib.hid (src_below HSA.out hb1)
  clear h1 hb1
  go_wp2_with fail
  refine (D1.out _ HS1.out (.inl ⟨rfl, rfl, rfl⟩)).mono ?_
  rintro e w2 ⟨AY, cy, rfl, _, hb2, _⟩
  have HO2 := Lib.hid (HO.out.below hb2)
  clear hb2 HO HS1 C1 D1
  go_wp2_with fail
  go_loopw [11, 12] (fun a j X => ∃ (i n c' : Nat) (A' : Option Addr) (f : Nat → Nat), j = .int .i64 i ∧ a = .slice A' n c' ∧ i ≤ K ∧ n ≤ 300 * i ∧ On w w.heap.size s (firstL s k) (withKey key k f) (keyLen k + n) A' n c' f X) (fun _ j _ => K - (intOf j).toNat)
  case atStart => exact ⟨0, 0, 0, none, fun _ => 0, rfl, rfl, by omega, by omega, HO2.out⟩
  case round =>
    obtain ⟨i, n, c', A', f, rfl, rfl, hiK, hn, hr⟩ := hrel
    have HR := Lib.hid hr
    clear hr HO2
    by_cases hlt : i < K
    · have dK : decide ((i : Int) < (K : Int)) = true := decide_eq_true (by omega)
      obtain ⟨pb, po, rfl, hpb, hpc⟩ : ∃ b off, P = some ⟨b, off, none⟩ ∧ b < w.heap.size ∧ ∀ i, i < K → w.cell? ⟨b, off + i, none⟩ = some (.slice (PA i) (PN i) (PC i)) := by
        rcases HP.out.2.2.2.2 with h | h
        · omega
        · exact h
      obtain ⟨hF1, hF2, hF3, hF4⟩ := HP.out.2.2.2.1 i hlt
      have hFF := HP.out.2.2.1 i
      have hcx := hpc i hlt
      generalize PA i = A0 at hF1 hF4 hcx
      generalize PN i = m at hF1 hF2 hF4 hcx
      generalize PC i = c0 at hF2 hF3 hF4 hcx
      generalize PF i = F at hF1 hFF
      have HCX := Lib.hid (fun (X : World) (hb : Below w.heap.size w X) => (hb.cell (p := ⟨pb, po + i, none⟩) hpb).trans hcx)
      have HFF := Lib.hid hFF
      have HRW := Lib.hid (src_rd (c := c0) hF1 hF4)
      clear hpc hcx hFF hF1
      have hcell := HCX.out _ HR.out.bel
      by_cases h3 : 300 < m
      · have d3 : decide ((300 : Int) < (m : Int)) = true := decide_eq_true (by omega)
        go_wp2_with fail
        refine (alive_any _ HR.out.lay).mono ?_
        rintro e w3 ⟨rfl, hb3⟩
        have HB := Lib.hid (below_trans HR.out.bel hb3)
        clear hb3
        go_wp2_with fail
        go_ret
        exact ⟨rfl, HB.out⟩
      · have d3 : decide ((300 : Int) < (m : Int)) = false := decide_eq_false (by omega)
        have HT1 := Lib.hid (show ∀ i, i < 0 + m → F i = if i < 0 then (fun _ => 0) i else F (i - 0) from fun i _ => by rw [if_neg (by omega), Nat.sub_zero])
        obtain ⟨X, hX⟩ : ∃ X, X = wr := ⟨_, rfl⟩
        subst hX
        have HO := Lib.hid (show Own (X.alloc (.cells #[] 5)) X.heap.size 5 (some ⟨X.heap.size, 0, none⟩) 0 0 (fun _ => 0) from World.ownsRow_lit X #[] 0 (Nat.le_refl _) (by decide) rfl)
        have HBN := Lib.hid (below_alloc (Below.refl X.heap.size X) (.cells #[] 5))
        have HSW := Lib.hid (src_below (src_below HRW.out HR.out.bel) HBN.out)
        have hcellA := HCX.out _ (below_trans HR.out.bel HBN.out)
        go_wp2_with (at_builtin; refine wpList_catFrom (W := X) rfl (.tmp 69) (.tmp 73) 22 5 (.int .u8 0) 1 Tryd.underlying22 info_u8 rfl rfl rfl HO.out HBN.out HBN.out.size m c0 A0 rfl HSW.out (by omega) (by omega) HT1.out ?_; intro A3 c3 w3 ho3 hb3 hs3 _ _; rw [Nat.zero_add] at ho3; have HO3 := Lib.hid ho3; have HB3 := Lib.hid hb3; clear ho3 hb3)
        have hgX := HR.out.glt
        have hA3 := own_at HO3.out
        have HRD3 := Lib.hid HO3.out.rd
        have hmc3 := own_le_cap HO3.out
        refine (write_any w.heap.size s (keyLen k + n) (firstL s k) (withKey key k f) F A3 m c3 HS0.out HF0.out (withKey_lt HK.out HR.out.lt k) HFF.out (by omega) hmc3 HL.out.size (by omega) _ (laid_below HR.out.lay HB3.out) (HR.out.below HB3.out).hash HRD3.out (fun _ b o e => by
          rcases hA3 with h0 | ⟨g3, e3, h4, _⟩
          · rw [h0] at e
            cases e
          · rw [e3] at e
            injection e with e
            injection e with e
            omega)).mono ?_
        rintro e w4 ⟨rfl, h4, g4⟩
        have h4' := h4.congr (t' := withKey key k fun i => if i < n then f i else F (i - n)) (fun i _ => text_more key f F k n i)
        rw [Nat.add_assoc] at h4'
        have HR4 := Lib.hid ((HR.out.below HB3.out).write g4 h4')
        have hs34 := g4.size
        obtain ⟨b, hbw, hbg, hbA, hb3⟩ : ∃ b, w.heap.size ≤ b ∧ b ≠ w.heap.size ∧ (∀ b' o, A' = some ⟨b', o, none⟩ → b' ≠ b) ∧ (0 < m → A3 = some ⟨b, 0, none⟩ ∧ Bytes w4 b m) := by
          have hXs := HR.out.bel.size
          rcases hA3 with rfl | ⟨g3, rfl, hg3, _⟩
          · refine ⟨X.heap.size, hXs, by omega, fun b' o e => by have := HR.out.alt b' o e; omega, fun h0 => ?_⟩
            rcases HO3.out.rd with h1 | ⟨_, _, h1, _⟩
            · omega
            · cases h1
          · have ho4 := Own.grown (A := some ⟨w.heap.size, 0, none⟩) (k := 0) (c := 0) HO3.out g4 (fun x x' e e' k => by
              injection e with e
              injection e' with e'
              subst e e'
              have k : w.heap.size = g3 := k
              omega)
            exact ⟨g3, by omega, by omega, fun b' o e => by have := HR.out.alt b' o e; omega, fun _ => ⟨rfl, Bytes.of_own ho4 HFF.out⟩⟩
        clear h4 h4' g4 HRD3 HO3 hA3 hcell hcellA HSW HBN HO HB3 HT1
        have HB3' := Lib.hid hb3
        clear hb3
        go_wp2_with fail
        go_loopw [15] (fun j Y => ∃ q : Nat, j = .int .i64 q ∧ q ≤ m ∧ Turn w4 b m Y) (fun j _ => m - (intOf j).toNat)
        case atStart => exact ⟨0, rfl, by omega, World.grownBy.refl _ _, fun h0 => (HB3'.out h0).2⟩
        case round =>
          obtain ⟨q, rfl, hqm, hq⟩ := hrel
          have HQ := Lib.hid hq
          clear hq
          by_cases hqlt : q < m
          · have dq : decide ((q : Int) < (m : Int)) = true := decide_eq_true (by omega)
            obtain ⟨rfl, _⟩ := HB3'.out (by omega)
            obtain ⟨v, hv, hvc, hvf⟩ := (HQ.out.bytes (by omega)).cell q hqlt
            have HX := Lib.hid (show bits .xor .u8 ((v : Nat) : Int) 255 = ((v ^^^ 255 : Nat) : Int) from u8_xor_nat v 255 hv (by omega))
            have HT := Lib.hid (HQ.out.put q (v ^^^ 255) (Nat.xor_lt_two_pow (n := 8) hv (by omega)))
            have q1 : (q : Int) + 1 ≤ (m : Int) := by omega
            go_wp2_with fail
            rw [HX.out]
            go_roundw
            case rel => exact ⟨q + 1, by go_num, by omega, HT.out⟩
            case measure => simp [intOf]; omega
          · obtain rfl : q = m := by omega
            have dq : decide ((q : Int) < (q : Int)) = false := decide_eq_false (by omega)
            have HR5 := Lib.hid (HR4.out.grown HQ.out.grown hbg hbw hbA)
            have hcell := HCX.out _ HR5.out.bel
            have HSW := Lib.hid (src_below HRW.out HR5.out.bel)
            obtain ⟨f5, hf5⟩ : ∃ f5, f5 = fun i => if i < n then f i else F (i - n) := ⟨_, rfl⟩
            rw [← hf5] at HR5
            have HF5 := Lib.hid (show ∀ i, f5 i < 256 from fun i => by
              rw [hf5]
              show (if i < n then f i else F (i - n)) < 256
              split
              · exact HR.out.lt i
              · exact HFF.out _)
            have HT5 := Lib.hid (show ∀ i, i < n + q → f5 i = if i < n then f i else F (i - n) from fun i _ => by rw [hf5])
            clear HR4 hf5 HQ HB3' HR
            go_wp2_with (at_builtin; refine wpList_catFrom rfl (.tmp 92) (.tmp 96) 22 5 (.int .u8 0) 1 Tryd.underlying22 info_u8 rfl rfl rfl HR5.out.all HR5.out.bel HR5.out.bel.size q c0 A0 rfl HSW.out (by omega) (by omega) HT5.out ?_; intro A5 c5 w5 ho5 hb5 hs5 hg5 hat5; have HR6 := Lib.hid (HR5.out.append ho5 hb5 hg5 hat5 HF5.out); clear ho5 hb5 hg5 hat5)
            have HDG := Lib.hid (show sumAt (finalL (firstL s k) (withKey key k f5) (keyLen k + (n + q))) = digest s key k f5 (n + q) from rfl)
            have HDL := Lib.hid (show ∀ i, digest s key k f5 (n + q) i < 256 from fun i => sumAt_lt _ _)
            have DR := Lib.hid (sum_ref s A A5 k c (n + q) c5 key f5 hs1 hs2 hk HK.out HF5.out (by omega))
            have CH := Lib.hid (hsum_any w.heap.size s (keyLen k + (n + q)) (firstL s k) (withKey key k f5) HS0.out HF0.out (withKey_lt HK.out HF5.out k) (by omega) hs1 hs2 w5 HR6.out.lay HR6.out.hash)
            rw [HDG.out] at CH
            generalize digest s key k f5 (n + q) = D at CH DR HDL HDG
            clear hcell HSW HT5 HR5 HDG
            refine (CH.out).mono ?_
            rintro e w6 ⟨G, rfl, q6, hG6, hb6⟩
            have HR7 := Lib.hid (HR6.out.below hb6)
            have hG1 : w.heap.size < G := by have := HR6.out.glt; omega
            have hG2 : ∀ b' o, A5 = some ⟨b', o, none⟩ → b' ≠ G := fun b' o e => by have := HR6.out.alt b' o e; omega
            have HQ6 := Lib.hid q6
            clear q6 hG6 hb6 HR6 CH
            go_wp2_with fail
            refine (DR.out _ (src_below HSA.out HR7.out.bel) (src_own HR7.out.all)).mono ?_
            rintro e w7 ⟨AZ, cz, rfl, q7, hb7, _⟩
            have HR8 := Lib.hid (HR7.out.below hb7)
            have HQ7 := Lib.hid (HQ6.out.below hb7 HQ6.out.lt)
            have y1 := run_string_of (P := Tryd.prog) (c := s) 22 9 5 Tryd.underlying22 Tryd.underlying5 Tryd.underlying9 (Rd.of_whole HQ7.out)
            have y2 := run_string_of (P := Tryd.prog) (c := cz) 22 9 5 Tryd.underlying22 Tryd.underlying5 Tryd.underlying9 q7
            have HBY := Lib.hid (Bytes.of_whole HQ7.out HDL.out)
            clear q7 hb7 HR7 HQ6 HQ7 DR HDL
            generalize strOf D s = SD at y1 y2
            go_wp2_with fail
            clear y1 y2
            go_loopw [20] (fun j Y => ∃ q : Nat, j = .int .i64 q ∧ q ≤ s ∧ Turn w7 G s Y) (fun j _ => s - (intOf j).toNat)
            case atStart => exact ⟨0, rfl, by omega, World.grownBy.refl _ _, fun _ => HBY.out⟩
            case round =>
              obtain ⟨x, rfl, hxs, hx⟩ := hrel
              have HQ := Lib.hid hx
              clear hx
              by_cases hxlt : x < s
              · have dq : decide ((x : Int) < (s : Int)) = true := decide_eq_true (by omega)
                obtain ⟨v, hv, hvc, hvf⟩ := (HQ.out.bytes (by omega)).cell x hxlt
                have HX := Lib.hid (show bits .xor .u8 ((v : Nat) : Int) 255 = ((v ^^^ 255 : Nat) : Int) from u8_xor_nat v 255 hv (by omega))
                have HT := Lib.hid (HQ.out.put x (v ^^^ 255) (Nat.xor_lt_two_pow (n := 8) hv (by omega)))
                have q1 : (x : Int) + 1 ≤ (s : Int) := by omega
                go_wp2_with fail
                rw [HX.out]
                go_roundw
                case rel => exact ⟨x + 1, by go_num, by omega, HT.out⟩
                case measure => simp [intOf]; omega
              · obtain rfl : x = s := by omega
                have dq : decide ((x : Int) < (x : Int)) = false := decide_eq_false (by omega)
                have HR9 := Lib.hid (HR8.out.grown HQ.out.grown (by omega) (by omega) hG2)
                clear HR8 HQ HBY
                go_wp2_with fail
                go_roundw
                case rel => exact ⟨i + 1, n + q, c5, A5, f5, by go_num, rfl, by omega, by omega, HR9.out⟩
                case measure => simp [intOf]; omega
    · obtain rfl : i = K := by omega
      have dK : decide ((i : Int) < (i : Int)) = false := decide_eq_false (by omega)
      go_wp2_with fail
      refine (alive_any _ HR.out.lay).mono ?_
      rintro e w3 ⟨rfl, hb3⟩
      have HB := Lib.hid (below_trans HR.out.bel hb3)
      clear hb3
      go_wp2_with fail
      go_ret
      exact ⟨rfl, HB.out⟩

set_option maxRecDepth 100000 in
set_option maxHeartbeats 4000000 in
theorem bad (size : Int) (A P : Option Addr) (k c K c2 : Nat) (hr : ¬ (1 ≤ size ∧ size ≤ 32 ∧ k ≤ 32)) (hK : K ≤ 12) (hk : k ≤ 100) (w : World) (hL : Laid w) :
    Calls Tryd.prog 3 #[.int .i64 size, .slice A k c, .slice P K c2] w (Done w) := by
  have d1 : decide ((12 : Int) < (K : Int)) = false := decide_eq_false (by omega)
  have d2 : decide ((100 : Int) < (k : Int)) = false := decide_eq_false (by omega)
  have HL := Lib.hid hL
  clear hL
  go_enter Tryd.func3, Tryd.ntmps3
  go_wp2_with fail
  refine (new_no size A k c hr w).mono ?_
  rintro e w1 ⟨rfl, rfl⟩
  go_wp2_with fail
  refine (sum_ref_no size A none k c 0 0 hr w).mono ?_
  rintro e w1 ⟨rfl, rfl⟩
  go_wp2_with fail
  refine wp_loop_rounds 1 ?_
  rw [rounds_succ]
  rcases Nat.eq_zero_or_pos K with h0 | h0
  · have dK : decide ((0 : Int) < (K : Int)) = false := decide_eq_false (by omega)
    go_wp2_with fail
    refine (alive_any _ HL.out).mono ?_
    rintro e w3 ⟨rfl, hb3⟩
    have HB := Lib.hid hb3
    clear hb3
    go_wp2_with fail
    go_ret
    exact ⟨rfl, HB.out⟩
  · have dK : decide ((0 : Int) < (K : Int)) = true := decide_eq_true (by omega)
    go_wp2_with fail
    refine (alive_any _ HL.out).mono ?_
    rintro e w3 ⟨rfl, hb3⟩
    have HB := Lib.hid hb3
    clear hb3
    go_wp2_with fail
    go_ret
    exact ⟨rfl, HB.out⟩

set_option maxRecDepth 100000 in
set_option maxHeartbeats 4000000 in
theorem walk (size : Int) (A : Option Addr) (k c : Nat) (ks : List Int) (P : Option Addr) (K c2 : Nat) (PA : Nat → Option Addr) (PN PC : Nat → Nat) (PF : Nat → Nat → Nat) (w : World) (hL : Laid w) (_ : (Lit.int .i64 size).wf = true) (h1 : IsRow .u8 w A k c ks) (hP : Arr.IsSlices w P K c2 PA PN PC PF) :
    Calls Tryd.prog 3 #[.int .i64 size, .slice A k c, .slice P K c2] w fun e w' => e = .returned (.bool true) ∧ Below w.heap.size w w' := by
  obtain ⟨key, hkey, hA, _, hSA⟩ := row_src h1
  clear h1
  show Calls Tryd.prog 3 #[.int .i64 size, .slice A k c, .slice P K c2] w (Done w)
  have HL := Lib.hid hL
  by_cases h1 : 12 < K
  · have d : decide ((12 : Int) < (K : Int)) = true := decide_eq_true (by omega)
    clear hL hA hSA hP hkey
    go_enter Tryd.func3, Tryd.ntmps3
    go_wp2_with fail
    refine (alive_any _ HL.out).mono ?_
    rintro e w1 ⟨rfl, hb⟩
    go_wp2_with fail
    go_ret
    exact ⟨rfl, hb⟩
  by_cases h2 : 100 < k
  · have d : decide ((12 : Int) < (K : Int)) = false := decide_eq_false (by omega)
    have d2 : decide ((100 : Int) < (k : Int)) = true := decide_eq_true (by omega)
    clear hL hA hSA hP hkey
    go_enter Tryd.func3, Tryd.ntmps3
    go_wp2_with fail
    refine (alive_any _ HL.out).mono ?_
    rintro e w1 ⟨rfl, hb⟩
    go_wp2_with fail
    go_ret
    exact ⟨rfl, hb⟩
  by_cases hr : 1 ≤ size ∧ size ≤ 32 ∧ k ≤ 32
  · obtain ⟨s, rfl⟩ : ∃ s : Nat, size = (s : Int) := ⟨size.toNat, by omega⟩
    exact good s (by omega) (by omega) A k c (by omega) key hkey P K c2 PA PN PC PF (by omega) w hL hA hSA hP
  · exact bad size A P k c K c2 hr (by omega) (by omega) w hL

end BlakeWrites
end Go.Proofs.YtcoppcididemkaaDoor
