/- The call chain of package kdf: keys of keys. -/
import Derived.Test.YtljepgddmfelpaaDoorKdfMac
namespace Go.Proofs.YtljepgddmfelpaaDoor
namespace Kdf
open Go.ChangeShapes Go.WideShapes Go.ChangeAt Go.RowKit
open Num Mem Words State Chacha Quiet Blake

/-- the links of a chain, one behind the other -/
def linkF (root : Nat → Nat) : Nat → Nat → Nat
  | 0 => macF root 32 (fun _ => 1) 1
  | j + 1 => macF root 32 (catF (linkF root j) 32 fun _ => j + 2) 33
theorem linkF_lt (root : Nat → Nat) (j i : Nat) : linkF root j i < 256 := by
  cases j with
  | zero => exact macF_lt _ _ _ _ _
  | succ j => exact macF_lt _ _ _ _ _

/-- the row of the links: pointers to blocks of 32 bytes -/
structure LinksAt (w : World) (B0 lb k : Nat) (L : Nat → Nat) : Prop where
  lt : lb < w.heap.size
  cell : ∀ j, j < k → w.cell? ⟨lb, j, none⟩ = some (.pointer (some ⟨L j, 0, none⟩))
  low : ∀ j, j < k → B0 ≤ L j
  far : ∀ j, j < k → L j ≠ lb
  inj : ∀ i j, i < k → j < k → L i = L j → i = j

/-- the world while links are filled: j of k are -/
structure ChainW (w : World) (B0 lb R k : Nat) (L : Nat → Nat) (root : Nat → Nat) (j : Nat) (X : World) : Prop where
  links : LinksAt X B0 lb k L
  rt : Whole X R 27 (byteCells root 32).toArray
  far : ∀ i, i < k → L i ≠ R
  done : ∀ i, i < j → i < k → Whole X (L i) 27 (byteCells (linkF root i) 32).toArray
  left : ∀ i, j ≤ i → i < k → Whole X (L i) 27 (byteCells (fun _ => 0) 32).toArray
  laid : Laid X
  bel : Below B0 w X
  low : B0 ≤ X.heap.size
theorem ChainW.below {w : World} {B0 lb R k : Nat} {L : Nat → Nat} {root : Nat → Nat} {j : Nat} {X Y : World} (h : ChainW w B0 lb R k L root j X) (hb : Below X.heap.size X Y) : ChainW w B0 lb R k L root j Y :=
  ⟨⟨Nat.lt_of_lt_of_le h.links.lt hb.size, fun i hi => (hb.cell (p := ⟨lb, i, none⟩) h.links.lt).trans (h.links.cell i hi), h.links.low, h.links.far, h.links.inj⟩, h.rt.below hb h.rt.lt, h.far, fun i h1 h2 => (h.done i h1 h2).below hb (h.done i h1 h2).lt, fun i h1 h2 => (h.left i h1 h2).below hb (h.left i h1 h2).lt, laid_below h.laid hb, h.bel.trans (hb.mono h.low), Nat.le_trans h.low hb.size⟩
theorem ChainW.put {w : World} {B0 lb R k : Nat} {L : Nat → Nat} {root : Nat → Nat} {j : Nat} {X : World} (h : ChainW w B0 lb R k L root j X) (hj : j < k) (h2 : 2 ≤ B0) : ChainW w B0 lb R k L root (j + 1) (X.setRow (L j) (byteCells (linkF root j) 32).toArray) := by
  have hs : (X.setRow (L j) (byteCells (linkF root j) 32).toArray).heap.size = X.heap.size := by simp [World.setRow]
  have hne : ∀ i, i < k → i ≠ j → L i ≠ L j := fun i hi e e2 => e (h.links.inj i j hi hj e2)
  refine ⟨⟨by rw [hs]; exact h.links.lt, fun i hi => ?_, h.links.low, h.links.far, h.links.inj⟩, Whole.farRow h.rt (fun e => h.far j hj e.symm) _, h.far, fun i h1 h2 => ?_, fun i h1 h2 => Whole.farRow (h.left i (by omega) h2) (hne i h2 (by omega)) _, ?_, below_setRow h.bel (h.links.low j hj) _, by rw [hs]; exact h.low⟩
  · rw [← h.links.cell i hi]
    simp only [World.cell?, setRow_other X (L j) lb _ (fun e => h.links.far j hj e.symm)]
  · by_cases e : i = j
    · subst e
      exact setRow_heap _ _ _ _ _ _ (h.left i (Nat.le_refl _) h2)
    · exact Whole.farRow (h.done i (by omega) h2) (hne i h2 e) _
  · exact laid_of (g := L j) h.laid (Nat.le_trans h2 (h.links.low j hj)) (grown_setRow X (L j) _)

set_option maxRecDepth 100000 in
set_option maxHeartbeats 1000000 in
theorem chain_any (key : Nat → Nat) (hkey : ∀ i, key i < 256) (A2 : Option Addr) (n c2 : Nat) (f : Nat → Nat) (hf : ∀ i, f i < 256) (hn : n ≤ 10000000) (hnc : n ≤ c2) (lb k B0 : Nat) (L : Nat → Nat) (hk : k ≤ 3) (h2 : 2 ≤ B0) (w : World) (hL : Laid w) (hA2 : Rd w A2 n f)
    (hB0 : B0 ≤ w.heap.size) (hlk : LinksAt w B0 lb k L) (hz : ∀ i, i < k → Whole w (L i) 27 (byteCells (fun _ => 0) 32).toArray) :
    Calls Tryd.prog 40 #[.agg (byteCells key 32).toArray, .slice A2 n c2, .slice (some ⟨lb, 0, none⟩) k k] w fun e w' => e = .returned (.tuple #[]) ∧ (∀ i, i < k → Whole w' (L i) 27 (byteCells (linkF (macF key 32 f n) i) 32).toArray) ∧ Below B0 w w' := by
  have HL := Lib.hid hL
  have HA2 := Lib.hid hA2
  have HK := Lib.hid hkey
  have HF := Lib.hid hf
  have HLK := Lib.hid hlk
  have HZ := Lib.hid hz
  have HZ32 := Lib.hid (show ∀ f, (byteCells f 32).toArray.size = 32 from fun f => by rw [List.size_toArray, byteCells_length])
  have HFR := Lib.hid (show ∀ i, i < k → L i < w.heap.size from fun i hi => (hz i hi).lt)
  have HRT := Lib.hid (macF_lt key 32 f n)
  have CM := Lib.hid (fun G W (hL : Laid W) (h1 : Rd W (some ⟨G, 0, none⟩) 32 key) (h2 : Rd W A2 n f) => mac_any (some ⟨G, 0, none⟩) 32 32 key hkey (by omega) (Nat.le_refl _) A2 n c2 f hf hn hnc W hL h1 h2)
  clear hL hA2 hkey hf hlk hz
  generalize macF key 32 f n = root at HRT CM ⊢
  go_enter Tryd.func40, Tryd.ntmps40
  go_upto_region 1 with fail
  have hbK : Below w.heap.size w (w.alloc (.cells (byteCells key 32).toArray 27)) := below_alloc (Below.refl _ _) _
  refine cut_world (fun X => Whole X w.heap.size 27 (byteCells key 32).toArray ∧ Laid X ∧ Below w.heap.size w X) ⟨whole_new _ _ rfl, laid_alloc HL.out _, hbK⟩ ?_
  clear hbK
  rintro W ⟨q0, ql, qb⟩
  have Q0 := Lib.hid q0
  have QL := Lib.hid ql
  have QB := Lib.hid qb
  clear q0 ql qb
  go_wp2_with fail
  refine (CM.out _ _ QL.out (Rd.of_whole Q0.out) (HA2.out.below QB.out (Nat.le_refl _))).mono ?_
  rintro e w1 ⟨rfl, hb1⟩
  have hbS := below_setRow (below_alloc (Below.refl w1.heap.size w1) (.cells #[.int .u8 0, .int .u8 0, .int .u8 0, .int .u8 0, .int .u8 0, .int .u8 0, .int .u8 0, .int .u8 0, .int .u8 0, .int .u8 0, .int .u8 0, .int .u8 0, .int .u8 0, .int .u8 0, .int .u8 0, .int .u8 0, .int .u8 0, .int .u8 0, .int .u8 0, .int .u8 0, .int .u8 0, .int .u8 0, .int .u8 0, .int .u8 0, .int .u8 0, .int .u8 0, .int .u8 0, .int .u8 0, .int .u8 0, .int .u8 0, .int .u8 0, .int .u8 0] 27)) (Nat.le_refl _) (byteCells root 32).toArray
  have hbA := QB.out.trans ((below_trans hb1 hbS).mono QB.out.size)
  have hw1 : w.heap.size ≤ w1.heap.size := Nat.le_trans QB.out.size hb1.size
  go_upto_region 2 with (refine wpList_store_row rfl 27 (.tmp 6) (.tmp 12) rfl w1.heap.size (byteCells root 32).toArray rfl rfl 27 _ (Whole.new _ _ _) (by rw [HZ32.out]; kernel_rfl) (by rw [HZ32.out]; rfl) (bytes_one _ _) ?_)
  try simp only [Act.put]
  refine cut_world (fun X => ChainW w B0 lb w1.heap.size k L root 0 X) ⟨⟨Nat.lt_of_lt_of_le HLK.out.lt hbA.size, fun j hj => (hbA.cell (p := ⟨lb, j, none⟩) HLK.out.lt).trans (HLK.out.cell j hj), HLK.out.low, HLK.out.far, HLK.out.inj⟩, setRow_heap _ _ _ _ _ _ (Whole.new _ _ _), fun i hi => by have := HFR.out i hi; omega, fun i hi => by omega, fun i _ hi => (HZ.out i hi).below hbA (HFR.out i hi), laid_below HL.out hbA, hbA.mono hB0, Nat.le_trans hB0 hbA.size⟩ ?_
  clear hbS hbA hb1 hw1 QL QB Q0 HL HA2 HLK HZ HFR CM
  generalize w1.heap.size = R
  rintro W2 hr
  have HR := Lib.hid hr
  clear hr
  go_wp2_with fail
  go_loopw [7, 15] (fun s i wr => ∃ (j : Nat) (A' : Option Addr) (m' c' : Nat) (g' : Nat → Nat), i = .int .i64 j ∧ j ≤ k ∧ s = .slice A' m' c' ∧ m' ≤ c' ∧ m' ≤ 32 ∧ (∀ i, g' i < 256) ∧ Rd wr A' m' g' ∧ macF root 32 (catF g' m' fun _ => j + 1) (m' + 1) = linkF root j ∧ ChainW w B0 lb R k L root j wr) (fun _ i _ => k - (intOf i).toNat)
  case atStart => exact ⟨0, none, 0, 0, fun _ => 0, rfl, by omega, rfl, by omega, by omega, fun _ => Nat.zero_lt_succ 255, .inl rfl, rfl, HR.out⟩
  case round =>
    obtain ⟨j, A', m', c', g', rfl, hj, rfl, hmc, hm, hg, hrd, hE, hr⟩ := hrel
    clear HR
    have HR := Lib.hid hr
    have HG := Lib.hid hg
    have HRD := Lib.hid hrd
    have HE := Lib.hid hE
    clear hr hg hrd hE
    by_cases hlt : j < k
    · have jl : (j : Int) < (k : Int) := by omega
      have hkI : (k : Int) ≤ 3 := by omega
      have hc := HR.out.links.cell j hlt
      have hw8 : IntKind.u8.wrap ((j : Int) + 1) = ((j + 1 : Nat) : Int) := by
        rw [IntKind.wrap_u8]
        omega
      go_wp2_with fail
      have hb1 : Below wr.heap.size wr (wr.alloc (.cells #[.int .u8 ((j : Int) + 1)] 5)) := below_alloc (Below.refl _ _) _
      have hb2 : Below wr.heap.size wr ((wr.alloc (.cells #[.int .u8 ((j : Int) + 1)] 5)).alloc (.cells #[.slice A' m' c', .slice (some ⟨wr.heap.size, 0, none⟩) 1 1] 22)) := below_alloc hb1 _
      have hpa : PartsAt ((wr.alloc (.cells #[.int .u8 ((j : Int) + 1)] 5)).alloc (.cells #[.slice A' m' c', .slice (some ⟨wr.heap.size, 0, none⟩) 1 1] 22)) (wr.heap.size + 1) 0 [⟨A', m', c', g'⟩, ⟨some ⟨wr.heap.size, 0, none⟩, 1, 1, fun _ => j + 1⟩] := by
        have h := parts_two (w := wr.alloc (.cells #[.int .u8 ((j : Int) + 1)] 5)) ⟨A', m', c', g'⟩ ⟨some ⟨wr.heap.size, 0, none⟩, 1, 1, fun _ => j + 1⟩ hmc (HRD.out.below hb1 (Nat.le_refl _)) HG.out (Nat.le_refl _) (Rd.of_new (f := fun _ => j + 1) (n := 1) rfl rfl) (fun _ => by show j + 1 < 256; omega)
        rwa [World.size_alloc] at h
      have HR2 := Lib.hid (HR.out.below hb2)
      refine (mark_any (some ⟨R, 0, none⟩) 32 32 root HRT.out (by omega) (Nat.le_refl _) (wr.heap.size + 1) 0 2 [⟨A', m', c', g'⟩, ⟨some ⟨wr.heap.size, 0, none⟩, 1, 1, fun _ => j + 1⟩] (by simp) (by simp [lenAll]; omega) _ HR2.out.laid (Rd.of_whole HR2.out.rt) hpa).mono ?_
      rintro e w5 ⟨rfl, hb5⟩
      have he : macF root 32 (textOf [⟨A', m', c', g'⟩, ⟨some ⟨wr.heap.size, 0, none⟩, 1, 1, fun _ => j + 1⟩]) (lenAll [⟨A', m', c', g'⟩, ⟨some ⟨wr.heap.size, 0, none⟩, 1, 1, fun _ => j + 1⟩]) = linkF root j := by
        rw [← HE.out, show lenAll [⟨A', m', c', g'⟩, ⟨some ⟨wr.heap.size, 0, none⟩, 1, 1, fun _ => j + 1⟩] = m' + 1 by simp [lenAll]]
        refine macF_congr (fun _ _ => rfl) fun i hi => ?_
        unfold textOf textOf catF
        by_cases l : i < m'
        · rw [if_pos l, if_pos l]
        · rw [if_neg l, if_neg l, if_pos (show i - m' < 1 by omega)]
      rw [he]
      have HR3 := Lib.hid (HR2.out.below hb5)
      have HR4 := Lib.hid (HR3.out.put hlt h2)
      have HLT := Lib.hid (linkF_lt root j)
      have HNE := Lib.hid (show macF root 32 (catF (linkF root j) 32 fun _ => j + 1 + 1) (32 + 1) = linkF root (j + 1) from rfl)
      clear hb1 hb2 hpa hb5 he HR HR2 HRD HE
      generalize linkF root j = F at HR4 HLT HNE ⊢
      go_upto_region 7 with (refine wpList_store_row rfl 27 (.tmp 29) (.tmp 28) rfl (L j) (byteCells F 32).toArray rfl rfl 27 _ (HR3.out.left j (Nat.le_refl _) hlt) (by rw [HZ32.out]; kernel_rfl) (by rw [HZ32.out, HZ32.out]) (bytes_one _ _) ?_)
      try simp only [Act.put]
      refine cut_world (fun X => ChainW w B0 lb R k L root (j + 1) X ∧ Whole X (L j) 27 (byteCells F 32).toArray) ⟨HR4.out, setRow_heap _ _ _ _ _ _ (HR3.out.left j (Nat.le_refl _) hlt)⟩ ?_
      clear HR3 HR4 hc
      rintro W5 ⟨hr, hq⟩
      have HR := Lib.hid hr
      have HQ := Lib.hid hq
      clear hr hq
      go_wp2_with fail
      go_roundw
      case rel => exact ⟨j + 1, _, 32, 32, F, by go_num, by omega, rfl, by omega, by omega, HLT.out, Rd.of_whole HQ.out, HNE.out, HR.out⟩
      case measure => simp [intOf]; omega
    · obtain rfl : j = k := by omega
      go_wp2_with fail
      go_end0
      exact ⟨rfl, fun i hi => HR.out.done i hi hi, HR.out.bel⟩

end Kdf
end Go.Proofs.YtljepgddmfelpaaDoor
