/- The call markOf of package aead: the mark of a text that is xor'ed, and of an open one. -/
import Derived.Test.YtdffbjlbhjppeaaBehind
import Derived.Test.YtdffbjlbhjppeaaJoin
import Derived.Test.YtdffbjlbhjppeaaBlock
namespace Go.Proofs.Ytdffbjlbhjppeaa
namespace Aead
open Go.ChangeShapes Go.WideShapes Go.ChangeAt Go.RowKit
open Num Mem Words State PolyN Chacha Quiet Poly Ref

/-- both lengths -/
def lens (a b i : Nat) : Nat := if i < 8 then byteAt a i else byteAt b (i - 8)
theorem lens_lt (a b i : Nat) : lens a b i < 256 := by
  unfold lens
  split <;> exact byteAt_lt _ _
/-- the mark with a key -/
def markW (O : Nat → Nat) (ft : Nat → Nat) (nt : Nat) (fo : Nat → Nat) (no : Nat) : Nat → Nat :=
  tag (mac (rk O) true (mac (rk O) true (mac (rk O) true 0 fo no) ft nt) (lens no nt) 16) O
def markF (key nonce : Nat → Nat) (ft : Nat → Nat) (nt : Nat) (fo : Nat → Nat) (no : Nat) : Nat → Nat := markW (blk key nonce 0) ft nt fo no

def lensP (G : Nat) (a b : Nat) : Parts := { A := fun i => some ⟨G + i, 0, none⟩, n := fun _ => 8, c := fun _ => 8, f := fun i => if i = 0 then byteAt a else byteAt b }
def bothP (Ao : Option Addr) (no co : Nat) (fo : Nat → Nat) (At : Option Addr) (nt ct : Nat) (ft : Nat → Nat) (Al : Option Addr) (fl : Nat → Nat) : Parts :=
  { A := fun i => if i = 0 then Ao else if i = 1 then At else Al, n := fun i => if i = 0 then no else if i = 1 then nt else 16, c := fun i => if i = 0 then co else if i = 1 then ct else 16, f := fun i => if i = 0 then fo else if i = 1 then ft else fl }
theorem macs_three (R : Nat) (p : Parts) : macs R p 3 = mac R true (mac R true (mac R true 0 (p.f 0) (p.n 0)) (p.f 1) (p.n 1)) (p.f 2) (p.n 2) := rfl
theorem lens_jo (G a b i : Nat) : joF (lensP G a b) 2 i = lens a b i := by
  have h : joF (lensP G a b) 2 i = if i < joN (lensP G a b) 1 then (if i < joN (lensP G a b) 0 then joF (lensP G a b) 0 i else byteAt a (i - 0)) else byteAt b (i - 8) := rfl
  rw [h, show joN (lensP G a b) 1 = 8 from rfl, show joN (lensP G a b) 0 = 0 from rfl, if_neg (by omega : ¬ i < 0), Nat.sub_zero]
  rfl

theorem lens_in {v : World} {F g a b : Nat} (hf : Whole v F 75 (byteCells (byteAt a) 8).toArray) (hg : Whole v (F + 1) 75 (byteCells (byteAt b) 8).toArray) (ha : ∀ i, byteAt a i < 256) (hb : ∀ i, byteAt b i < 256)
    (hr : Whole v g 23 #[.slice (some ⟨F, 0, none⟩) 8 8, .slice (some ⟨F + 1, 0, none⟩) 8 8]) : (lensP F a b).In v (some ⟨g, 0, none⟩) 2 := by
  refine ⟨fun i hi => ⟨?_, Nat.le_refl 8, by show 8 ≤ 1000000; omega⟩, fun i j => ?_, .inr ⟨g, 0, rfl, hr.lt, fun i hi => ?_⟩⟩
  · rcases i with _ | _ | i
    · exact .inr ⟨F, 0, rfl, hf.lt, fun j hj => hf.bytes j hj⟩
    · exact .inr ⟨F + 1, 0, rfl, hg.lt, fun j hj => hg.bytes j hj⟩
    · omega
  · show (if i = 0 then byteAt a else byteAt b) j < 256
    split
    · exact ha j
    · exact hb j
  · rw [Nat.zero_add, hr.cell]
    rcases i with _ | _ | i
    · rfl
    · rfl
    · omega
theorem both_in {v : World} {g : Nat} {Ao At Al : Option Addr} {no co nt ct : Nat} {fo ft fl : Nat → Nat} (ho : ∀ i, fo i < 256) (ht : ∀ i, ft i < 256) (hl : ∀ i, fl i < 256) (hno : no ≤ 1000000) (hnt : nt ≤ 1000000)
    (ro : Rd v Ao no fo) (rt : Rd v At nt ft) (rl : Rd v Al 16 fl) (hco : no ≤ co) (hct : nt ≤ ct)
    (hr : Whole v g 23 #[.slice Ao no co, .slice At nt ct, .slice Al 16 16]) : (bothP Ao no co fo At nt ct ft Al fl).In v (some ⟨g, 0, none⟩) 3 := by
  refine ⟨fun i hi => ?_, fun i j => ?_, .inr ⟨g, 0, rfl, hr.lt, fun i hi => ?_⟩⟩
  · rcases i with _ | _ | _ | i
    · exact ⟨ro, hco, hno⟩
    · exact ⟨rt, hct, hnt⟩
    · exact ⟨rl, Nat.le_refl 16, by show 16 ≤ 1000000; omega⟩
    · omega
  · show (if i = 0 then fo else if i = 1 then ft else fl) j < 256
    split
    · exact ho j
    · split
      · exact ht j
      · exact hl j
  · rw [Nat.zero_add, hr.cell]
    rcases i with _ | _ | _ | i
    · rfl
    · rfl
    · rfl
    · omega

/-- what stays while the mark is made -/
def SM (w : World) (B : Nat) (O : Nat → Nat) (X : World) : Prop := Whole X (B + 1 + 1 + 1) 22 (byteCells O 32).toArray ∧ Below B w X
theorem sm_below {w X Y : World} {B : Nat} {O : Nat → Nat} (h : SM w B O X) (hb : Below X.heap.size X Y) : SM w B O Y :=
  ⟨h.1.below hb h.1.lt, h.2.trans (hb.mono (by have := h.1.lt; omega))⟩
theorem sm_set {w X : World} {B g : Nat} {O : Nat → Nat} (h : SM w B O X) (h1 : B + 1 + 1 + 1 ≠ g) (h4 : B ≤ g) (cs : Array Value) : SM w B O (X.setRow g cs) :=
  ⟨(setRow_other _ _ _ _ h1).trans h.1, below_setRow h.2 h4 _⟩

set_option maxRecDepth 100000 in
set_option maxHeartbeats 1000000 in
theorem mark_any (key nonce : Nat → Nat) (hk : ∀ i, key i < 256) (hn : ∀ i, nonce i < 256) (At : Option Addr) (nt ct : Nat) (ft : Nat → Nat) (hft : ∀ i, ft i < 256) (Ao : Option Addr) (no co : Nat) (fo : Nat → Nat) (hfo : ∀ i, fo i < 256)
    (hct : nt ≤ ct) (hco : no ≤ co) (hnt : nt ≤ 65536) (hno : no ≤ 65536) (w : World) (hrt : Rd w At nt ft) (hro : Rd w Ao no fo) :
    Calls Try.prog 42 #[.agg (byteCells key 32).toArray, .agg (byteCells nonce 12).toArray, .slice At nt ct, .slice Ao no co] w fun e w' => e = .returned (.agg (byteCells (markF key nonce ft nt fo no) 16).toArray) ∧ Below w.heap.size w w' := by
  have HK := Lib.hid hk
  have HN := Lib.hid hn
  have HFT := Lib.hid hft
  have HFO := Lib.hid hfo
  have HRT := Lib.hid hrt
  have HRO := Lib.hid hro
  clear hk hn hft hfo hrt hro
  rw [byteCells_lit32, byteCells_lit12]
  go_enter Try.func42, Try.ntmps42
  go_upto_region 2 with fail
  refine cut_world (fun W => Whole W w.heap.size 40 (byteCells key 32).toArray ∧ Whole W (w.heap.size + 1) 41 (byteCells nonce 12).toArray ∧ Whole W (w.heap.size + 1 + 1) 25 (byteCells (fun _ => 0) 16).toArray ∧ Whole W (w.heap.size + 1 + 1 + 1) 22 (byteCells (fun _ => 0) 32).toArray ∧ Below w.heap.size w W) ⟨?_, ?_, ?_, ?_, ?_⟩ ?_
  · rw [byteCells_lit32]
    exact (((whole_new _ _ rfl).alloc _).alloc _).alloc _
  · rw [byteCells_lit12]
    exact ((whole_new _ _ (by simp)).alloc _).alloc _
  · exact (whole_new _ _ (by simp)).alloc _
  · exact whole_new _ _ (by simp)
  · exact below_alloc (below_alloc (below_alloc (below_alloc (Below.refl _ _) _) _) _) _
  rintro W ⟨k1, k2, k3, k4, kb⟩
  have K1 := Lib.hid k1
  have K2 := Lib.hid k2
  have K3 := Lib.hid k3
  have K4 := Lib.hid k4
  have KB := Lib.hid kb
  have hl4 := k4.lt
  clear k1 k2 k3 k4 kb
  generalize hB : w.heap.size = B at K1 K2 K3 K4 KB hl4 ⊢
  have HB := Lib.hid hB
  have HZ12 := Lib.hid (show ∀ f, (byteCells f 12).toArray.size = 12 from fun f => by rw [List.size_toArray, byteCells_length])
  have HZ16 := Lib.hid (show ∀ f, (byteCells f 16).toArray.size = 16 from fun f => by rw [List.size_toArray, byteCells_length])
  have HZ64 := Lib.hid (show ∀ f, (byteCells f 64).toArray.size = 64 from fun f => by rw [List.size_toArray, byteCells_length])
  have HZ8 := Lib.hid (show ∀ f, (byteCells f 8).toArray.size = 8 from fun f => by rw [List.size_toArray, byteCells_length])
  obtain ⟨O, hO⟩ : ∃ O, blk key nonce 0 = O := ⟨_, rfl⟩
  have HO := Lib.hid hO
  have HOB := Lib.hid (show ∀ i, O i < 256 from fun i => by rw [← hO]; exact blk_lt _ _ _ _)
  clear hO hB
  go_wp2_with (first | (refine wpList_load_row rfl 40 (.tmp 4) rfl B rfl 40 (byteCells key 32).toArray (0, 0) _ K1.out rfl rfl (by kernel_rfl) ?_) | (refine wpList_load_row rfl 41 (.tmp 5) rfl (B + 1) rfl 41 (byteCells nonce 12).toArray (0, 0) _ K2.out rfl rfl (by kernel_rfl) ?_))
  refine (block_any key nonce HK.out HN.out 0 (by omega) _).mono ?_
  rintro e w1 ⟨rfl, hb⟩
  rw [HO.out]
  have L3 := Lib.hid (K3.out.below hb K3.out.lt)
  have L4 := Lib.hid (K4.out.below hb K4.out.lt)
  have LB := Lib.hid (KB.out.trans (hb.mono (by omega)))
  have hs1 := hb.size
  clear hb K1 K2 K3 K4 KB
  go_upto_region 3 with (refine wpList_store_row rfl 90 (.tmp 10) (.tmp 15) rfl w1.heap.size (byteCells O 64).toArray rfl rfl 90 _ (Whole.new _ _ _) (by rw [HZ64.out]; kernel_rfl) (by rw [HZ64.out]; rfl) (bytes_one _ _) ?_)
  try simp only [Act.put]
  refine cut_world (fun W => Whole W (B + 1 + 1) 25 (byteCells (fun _ => 0) 16).toArray ∧ Whole W (B + 1 + 1 + 1) 22 (byteCells (fun _ => 0) 32).toArray ∧ Whole W w1.heap.size 90 (byteCells O 64).toArray ∧ Below B w W) ⟨?_, ?_, ?_, ?_⟩ ?_
  · exact (setRow_other _ _ _ _ (by omega)).trans (L3.out.alloc _)
  · exact (setRow_other _ _ _ _ (by omega)).trans (L4.out.alloc _)
  · exact setRow_heap _ _ _ _ _ _ (Whole.new _ _ _)
  · exact below_setRow (LB.out.alloc (by omega) _) (by omega) _
  rintro W2 ⟨k3, k4, k5, kb⟩
  have K3 := Lib.hid k3
  have K4 := Lib.hid k4
  have KB := Lib.hid kb
  have K4D := Lib.hid (show Whole W2.drew (B + 1 + 1 + 1) 22 (byteCells (fun _ => 0) 32).toArray from k4.drew)
  have HS := Lib.hid (rd_src (w := W2.drew) (b := w1.heap.size) (off := 0) (n := 32) (f := O) (fun i hi => k5.drew.bytes i (by omega)))
  have hG : B + 1 + 1 + 1 < w1.heap.size := by omega
  have hl2 := k5.lt
  clear k3 k4 k5 kb L3 L4 LB hs1 hl4
  generalize w1.heap.size = G at HS hG hl2 ⊢
  go_region_law (refine step_copy_grown rfl (.tmp 16) (.tmp 17) 23 23 rfl 5 rfl (by kernel_rfl) (B + 1 + 1 + 1) 0 32 32 ⟨G, 0, none⟩ 64 64 rfl rfl (byteCells (fun _ => 0) 32) 22 K4D.out (byteCells O 32) (by rw [byteCells_length]; rfl) HS.out (by rw [byteCells_length, byteCells_length]; omega) (bytes_each _ _) ?_; intro w3 hg3 hb3)
  have L4 := Lib.hid (show Whole w3 (B + 1 + 1 + 1) 22 (byteCells O 32).toArray from by
    have h := hg3.out
    rw [byteCells_splice (fun _ => 0) O O 32 0 32 (by omega) (fun i hi => by rw [if_pos ⟨by omega, by omega⟩, Nat.sub_zero])] at h
    exact h)
  have L3 := Lib.hid (whole_grown (w := w3) K3.out.drew hb3 (by omega))
  have LB := Lib.hid (below_grown (below_drewN KB.out 1) hb3 (by omega) (by show B ≤ W2.heap.size; omega))
  clear hg3 hb3 K3 K4 KB K4D HS hl2 hG
  have hwo : (no : Int) < 18446744073709551616 := by omega
  have hwt : (nt : Int) < 18446744073709551616 := by omega
  go_wp2_with fail
  refine (put64_any no (by omega) _).mono ?_
  rintro e w4 ⟨rfl, hb4⟩
  have M3 := Lib.hid (L3.out.below hb4 L3.out.lt)
  have M4 := Lib.hid (L4.out.below hb4 L4.out.lt)
  have MB := Lib.hid (LB.out.trans (hb4.mono (by have := L4.out.lt; omega)))
  clear hb4 L3 L4 LB
  go_wp2_with fail
  refine (put64_any nt (by omega) _).mono ?_
  rintro e w5 ⟨rfl, hb5⟩
  have N3 := Lib.hid (M3.out.below hb5 M3.out.lt)
  have N4 := Lib.hid (M4.out.below hb5 M4.out.lt)
  have NB := Lib.hid (MB.out.trans (hb5.mono (by have := M4.out.lt; omega)))
  have hl5 := N4.out.lt
  clear hb5 M3 M4 MB
  have HBA := Lib.hid byteAt_lt
  have HLL := Lib.hid (lens_lt no nt)
  obtain ⟨M, hM⟩ : ∃ M, markF key nonce ft nt fo no = M := ⟨_, rfl⟩
  have HM := Lib.hid (show ∀ AL, tag (macs (rk O) (bothP Ao no co fo At nt ct ft AL (lens no nt)) 3) O = M from fun AL => by
    rw [macs_three, ← hM]
    unfold markF markW
    rw [HO.out]
    rfl)
  have HMM := Lib.hid hM
  clear hM
  go_upto_region 5 with (first | (refine wpList_store_row rfl 75 (.tmp 11) (.tmp 22) rfl w5.heap.size (byteCells (byteAt no) 8).toArray rfl rfl 75 _ ((Whole.new _ _ _).alloc _) (by rw [HZ8.out]; kernel_rfl) (by rw [HZ8.out]; rfl) (bytes_one _ _) ?_) | (refine wpList_store_row rfl 75 (.tmp 12) (.tmp 26) rfl (w5.heap.size + 1) (byteCells (byteAt nt) 8).toArray rfl rfl 75 _ ((setRow_other _ _ _ _ (by omega)).trans (whole_new _ _ (by simp))) (by rw [HZ8.out]; kernel_rfl) (by rw [HZ8.out]; rfl) (bytes_one _ _) ?_))
  try simp only [Act.put]
  refine cut_world (fun W => Whole W (B + 1 + 1) 25 (byteCells (fun _ => 0) 16).toArray ∧ Whole W (B + 1 + 1 + 1) 22 (byteCells O 32).toArray ∧ Whole W w5.heap.size 75 (byteCells (byteAt no) 8).toArray ∧ Whole W (w5.heap.size + 1) 75 (byteCells (byteAt nt) 8).toArray ∧ Below B w W) ⟨?_, ?_, ?_, ?_, ?_⟩ ?_
  · exact (setRow_other _ _ _ _ (by omega)).trans ((setRow_other _ _ _ _ (by omega)).trans ((N3.out.alloc _).alloc _))
  · exact (setRow_other _ _ _ _ (by omega)).trans ((setRow_other _ _ _ _ (by omega)).trans ((N4.out.alloc _).alloc _))
  · exact (setRow_other _ _ _ _ (by omega)).trans (setRow_heap _ _ _ _ _ _ ((Whole.new _ _ _).alloc _))
  · exact setRow_heap _ _ _ _ _ _ ((setRow_other _ _ _ _ (by omega)).trans (whole_new _ _ (by simp)))
  · exact below_setRow (below_setRow ((NB.out.alloc (by omega) _).alloc (by simp; omega) _) (by omega) _) (by omega) _
  rintro W6 ⟨k3, k4, kf, kg, kb⟩
  have K3 := Lib.hid k3
  have K4 := Lib.hid k4
  have KF := Lib.hid kf
  have KG := Lib.hid kg
  have KB := Lib.hid kb
  clear k3 k4 kf kg kb N3 N4 NB
  generalize w5.heap.size = F at KF KG hl5 ⊢
  refine region_drew (SM w B O) (by kernel_rfl) ⟨K4.out.drew, below_drewN KB.out 1⟩ ?_
  intro hS
  clear K4 KB
  refine take 0 _ rfl (by kernel_rfl) (by kernel_rfl) (by kernel_rfl) (fun _ _ _ h => h) (by rfl) hS (fun w hw => run_load_op 22 (.tmp 9) rfl ((B+1+1+1)) rfl (hw.1) rfl rfl (by rw [List.size_toArray, byteCells_length]; kernel_rfl)) ?_
  try simp only [Act.put, List.setIfInBounds_toArray, List.set_cons_zero, List.set_cons_succ]
  refine take 1 _ rfl (by kernel_rfl) (by kernel_rfl) (by kernel_rfl) (fun _ _ _ h => h) (by rfl) hS (by intro w _; go_simp; with_reducible rfl) ?_
  try simp only [Act.put, List.setIfInBounds_toArray, List.set_cons_zero, List.set_cons_succ]
  refine take 2 _ rfl (by kernel_rfl) (by kernel_rfl) (by kernel_rfl) (fun _ _ _ h => h) (by rfl) hS (by intro w _; go_simp; with_reducible rfl) ?_
  try simp only [Act.put, List.setIfInBounds_toArray, List.set_cons_zero, List.set_cons_succ]
  refine take 3 _ rfl (by kernel_rfl) (by kernel_rfl) (by kernel_rfl) (fun _ _ _ h => h) (by rfl) hS (by intro w _; go_simp; with_reducible rfl) ?_
  try simp only [Act.put, List.setIfInBounds_toArray, List.set_cons_zero, List.set_cons_succ]
  refine take 4 _ rfl (by kernel_rfl) (by kernel_rfl) (by kernel_rfl) (fun _ _ _ h => h) (by rfl) hS (by intro w _; go_simp; with_reducible rfl) ?_
  try simp only [Act.put, List.setIfInBounds_toArray, List.set_cons_zero, List.set_cons_succ]
  refine alone 5 rfl (by kernel_rfl) (by rfl) ?_
  intro K hK
  go_simp
  refine hK.out _ _ ⟨hS.1.alloc _, hS.2.alloc (by have := hS.1.lt; omega) _⟩ ?_
  clear hK K
  try simp only [Act.put, List.setIfInBounds_toArray, List.set_cons_zero, List.set_cons_succ]
  refine cut_any (fun X => SM w B O X ∧ Whole X (B + 1 + 1) 25 (byteCells (fun _ => 0) 16).toArray ∧ Whole X F 75 (byteCells (byteAt no) 8).toArray ∧ Whole X (F + 1) 75 (byteCells (byteAt nt) 8).toArray ∧ Whole X W6.heap.size 23 #[.slice (some ⟨F, 0, none⟩) 8 8, .slice (some ⟨F + 1, 0, none⟩) 8 8]) ⟨⟨hS.1.alloc _, hS.2.alloc (by have := hS.1.lt; omega) _⟩, K3.out.drew.alloc _, KF.out.drew.alloc _, KG.out.drew.alloc _, Whole.new _ _ _⟩ ?_
  rintro v1 ⟨hS1, p3, pf, pg, pr⟩
  clear hS
  have hS := hS1
  clear hS1
  have hlr := pr.lt
  have hin : (lensP F no nt).In v1 (some ⟨W6.heap.size, 0, none⟩) 2 := lens_in pf pg (HBA.out no) (HBA.out nt) pr
  have P3 := Lib.hid p3
  have HIN := Lib.hid hin
  clear p3 pf pg pr hin K3 KF KG
  generalize W6.heap.size = g1 at HIN hlr ⊢
  refine alone 6 rfl (by kernel_rfl) (by rfl) ?_
  intro K hK
  go_simp
  refine (join_any (some ⟨g1, 0, none⟩) 2 2 (lensP F no nt) (by omega) _ HIN.out (fun i _ e => by cases e)).mono ?_
  rintro e v2 ⟨AL, cl, rfl, ol, hb⟩
  rw [show joN (lensP F no nt) 2 = 16 from rfl] at ol ⊢
  have RL := Lib.hid ((Own.congr (g := lens no nt) ol (fun i _ => lens_jo F no nt i)).rd)
  have Q3 := Lib.hid (P3.out.below hb P3.out.lt)
  clear ol P3 HIN
  go_simp
  replace hS := sm_below hS hb
  refine hK.out _ _ hS ?_
  clear hK hb K
  try simp only [Act.put, List.setIfInBounds_toArray, List.set_cons_zero, List.set_cons_succ]
  generalize lens no nt = LL at RL HLL HM
  refine alone 7 rfl (by kernel_rfl) (by rfl) ?_
  intro K hK
  go_simp
  refine hK.out _ _ ⟨hS.1.alloc _, hS.2.alloc (by have := hS.1.lt; omega) _⟩ ?_
  clear hK K
  try simp only [Act.put, List.setIfInBounds_toArray, List.set_cons_zero, List.set_cons_succ]
  refine cut_any (fun X => SM w B O X ∧ Whole X (B + 1 + 1) 25 (byteCells (fun _ => 0) 16).toArray ∧ Rd X AL 16 LL ∧ Whole X v2.heap.size 23 #[.slice Ao no co, .slice At nt ct, .slice AL 16 16]) ⟨⟨hS.1.alloc _, hS.2.alloc (by have := hS.1.lt; omega) _⟩, Q3.out.alloc _, RL.out.below (below_alloc (Below.refl _ _) _) (Nat.le_refl _), Whole.new _ _ _⟩ ?_
  rintro v3 ⟨hS1, p3, rl, pr⟩
  clear hS
  have hS := hS1
  clear hS1
  have hin : (bothP Ao no co fo At nt ct ft AL LL).In v3 (some ⟨v2.heap.size, 0, none⟩) 3 := both_in HFO.out HFT.out HLL.out (by omega) (by omega) (HRO.out.below hS.2 (by rw [HB.out]; exact Nat.le_refl _)) (HRT.out.below hS.2 (by rw [HB.out]; exact Nat.le_refl _)) rl hco hct pr
  have P3 := Lib.hid p3
  have HIN := Lib.hid hin
  clear p3 rl pr hin RL Q3
  generalize v2.heap.size = g2 at HIN ⊢
  refine alone 8 rfl (by kernel_rfl) (by rfl) ?_
  intro K hK
  go_simp
  refine (both_any O HOB.out (some ⟨g2, 0, none⟩) 3 3 (bothP Ao no co fo At nt ct ft AL LL) (by omega) _ HIN.out).mono ?_
  rintro e v4 ⟨rfl, hb⟩
  rw [HM.out AL]
  have Q3 := Lib.hid (P3.out.below hb P3.out.lt)
  clear P3 HIN
  go_simp
  replace hS := sm_below hS hb
  refine hK.out _ _ hS ?_
  clear hK hb K
  try simp only [Act.put, List.setIfInBounds_toArray, List.set_cons_zero, List.set_cons_succ]
  refine alone 9 rfl (by kernel_rfl) (by rfl) ?_
  intro K hK
  refine wp_store_row 25 (.tmp 8) (.tmp 35) rfl (B + 1 + 1) (byteCells M 16).toArray (by rfl) (by rfl) 25 _ Q3.out (by rw [HZ16.out]; kernel_rfl) (by rw [HZ16.out, HZ16.out]) (bytes_one _ _) ?_
  have hS2 := sm_set (g := B + 1 + 1) hS (by omega) (by omega) (byteCells M 16).toArray
  refine hK.out _ _ hS2 ?_
  clear hK K hS
  have hS := hS2
  clear hS2
  try simp only [Act.put]
  refine region_end (by kernel_rfl) ?_
  go_wp2_with fail
  have hret : Whole (v4.setRow (B + 1 + 1) (byteCells M 16).toArray) (B + 1 + 1) 25 (byteCells M 16).toArray := setRow_heap _ _ _ _ _ _ Q3.out
  refine bodyPost_ret (results_cell_row rfl _ _ (B + 1 + 1) 25 _ (0, 0) _ rfl hret rfl rfl (by rw [HZ16.out]; kernel_rfl)) rfl ?_
  rw [HMM.out, HB.out]
  exact ⟨rfl, hS.2⟩

end Aead
end Go.Proofs.Ytdffbjlbhjppeaa
