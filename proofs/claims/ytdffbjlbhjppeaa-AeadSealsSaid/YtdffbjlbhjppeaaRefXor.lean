/- The document's own answers of layer 2 (package aditref02): Xor. -/
import Derived.Test.YtdffbjlbhjppeaaRefChc
import Derived.Test.YtdffbjlbhjppeaaTwice
namespace Go.Proofs.Ytdffbjlbhjppeaa
namespace Ref
open Go.ChangeShapes Go.WideShapes Go.ChangeAt Go.RowKit
open Num Mem Words State Chacha Quiet

theorem xor_ref_long (key nonce : Option Addr) (n1 c1 n2 c2 : Nat) (ctr : Int) (A : Option Addr) (n c : Nat) (h : 65536 < n) (w : World) :
    Calls Try.prog 44 #[.slice key n1 c1, .slice nonce n2 c2, .int .u64 ctr, .slice A n c] w fun e w' => e = .returned (.tuple #[.slice none 0 0, .int .i64 2]) ∧ w = w' := by
  have hd : decide ((65536 : Int) < (n : Int)) = true := decide_eq_true (by omega)
  go_enter Try.func44, Try.ntmps44
  go_wp2_with fail
  go_ret2
  exact ⟨rfl, rfl⟩

theorem xo_step (key nonce : Nat → Nat) {f : Nat → Nat} (hf : ∀ i, f i < 256) (ctr j q m : Nat) (hq : q = ctr + j / 64) (hm : m = j % 64) : bits .xor .u8 (f j : Nat) (blk key nonce q m : Nat) = ((xo key nonce ctr f j : Nat) : Int) := by
  subst hq
  subst hm
  rw [u8_xor_nat _ _ (hf j) (blk_lt _ _ _ _)]
  rfl
theorem tmod_nat (j m : Nat) (h : m = j % 64) : (j : Int).tmod 64 = (m : Int) := by
  subst h
  rw [Int.tmod_eq_emod_of_nonneg (by omega)]
  omega
/-- what a row of a block reads as -/
def KRow (w : World) (g : Nat) (k : Nat → Nat) : Prop := ∀ i, i < 64 → w.cell? ⟨g, i, none⟩ = some (.int .u8 (k i : Nat))
/-- the slot that holds the block, at place j of the text -/
def KOk (w : World) (A : Option Addr) (v : Value) (key nonce : Nat → Nat) (ctr j : Nat) : Prop :=
  ∃ AK nk ck, v = .slice AK nk ck ∧ (j % 64 ≠ 0 → nk = 64 ∧ ∃ g, AK = some ⟨g, 0, none⟩ ∧ g < w.heap.size ∧ (∀ h, A = some ⟨h, 0, none⟩ → h ≠ g) ∧ KRow w g (blk key nonce (ctr + j / 64)))
theorem krow_alloc {w : World} {g : Nat} {k : Nat → Nat} (h : KRow w g k) (hg : g < w.heap.size) (o : Obj) : KRow (w.alloc o) g k := fun i hi => by
  rw [← h i hi]
  exact World.cell?_of_block (Below.heap_alloc w o g hg)
theorem krow_grown {w w' : World} {g k0 c0 : Nat} {A : Option Addr} {k : Nat → Nat} (h : KRow w g k) (hg : w.grownBy w' (Value.slice A k0 c0).ownBlock) (hlt : g < w.heap.size) (hne : ∀ h, A = some ⟨h, 0, none⟩ → h ≠ g) (hA : A = none ∨ ∃ h, A = some ⟨h, 0, none⟩) : KRow w' g k := fun i hi => by
  rw [← h i hi]
  refine World.cell?_of_block (hg.block g hlt ?_)
  rcases hA with rfl | ⟨h, rfl⟩
  · simp [Value.ownBlock]
  · simp only [Value.ownBlock]
    intro e
    injection e with e
    exact hne h rfl e.symm
theorem own_form {w : World} {B t k c : Nat} {A : Option Addr} {f : Nat → Nat} (h : Own w B t A k c f) : A = none ∨ ∃ h, A = some ⟨h, 0, none⟩ := by
  rcases h.2 with ⟨e, _⟩ | ⟨g, cap, cur, e, _⟩
  · injection e with e1
    exact .inl e1
  · injection e with e1
    exact .inr ⟨g, e1⟩
theorem apart_at {w w' : World} {A A' : Option Addr} {g k c k' c' B e : Nat} {xs : List Value} (hat : (Value.slice A' k' c').ownBlock = (Value.slice A k c).ownBlock ∨ (Value.slice A' k' c').ownBlock = some w.heap.size) (hne : ∀ h, A = some ⟨h, 0, none⟩ → h ≠ g) (hlt : g < w.heap.size) (hA : A = none ∨ ∃ h, A = some ⟨h, 0, none⟩) (_ : w'.ownsRow B e 1 (.slice A' k' c') k' xs) : ∀ h, A' = some ⟨h, 0, none⟩ → h ≠ g := by
  rintro h rfl
  rcases hat with e | e
  · rcases hA with rfl | ⟨h', rfl⟩
    · simp [Value.ownBlock] at e
    · simp [Value.ownBlock] at e
      subst e
      exact hne _ rfl
  · simp [Value.ownBlock] at e
    omega
theorem owns_lt {w : World} {B t k c g : Nat} {f : Nat → Nat} (h : Own w B t (some ⟨g, 0, none⟩) k c f) : B ≤ g ∧ g < w.heap.size := World.ownsRow.lt h g rfl
theorem apart_new {w : World} {B t k c g : Nat} {A : Option Addr} {f : Nat → Nat} (h : Own w B t A k c f) (hg : w.heap.size ≤ g) : ∀ h, A = some ⟨h, 0, none⟩ → h ≠ g := by
  rintro h' rfl e
  have := (owns_lt h).2
  omega
theorem krow_own {w : World} {B t c g : Nat} {f : Nat → Nat} (h : Own w B t (some ⟨g, 0, none⟩) 64 c f) : KRow w g f := by
  rcases h.rd with h | ⟨b, o, e, _, hc⟩
  · omega
  · injection e with e
    injection e with e1 e2
    subst e1
    subst e2
    intro i hi
    rw [← hc i hi, Nat.zero_add]
theorem Own.cap_le {w : World} {B t k c : Nat} {A : Option Addr} {f : Nat → Nat} (h : Own w B t A k c f) (hk : 0 < k) : k ≤ c := by
  rcases h.2 with ⟨_, h0⟩ | ⟨g, cap, cur, e, _, _, h1, _⟩
  · omega
  · injection e with _ _ e3
    subst e3
    exact h1
/-- what comes of it -/
def XorPost (w : World) (key nonce : Nat → Nat) (ctr : Nat) (n : Nat) (f : Nat → Nat) (e : Ending) (w' : World) : Prop :=
  Below w.heap.size w w' ∧ ((ctr + (n + 63) / 64 ≤ 4294967296 ∧ ∃ A c, e = .returned (.tuple #[.slice A n c, .int .i64 0]) ∧ Rd w' A n (xo key nonce ctr f)) ∨ (4294967296 < ctr + (n + 63) / 64 ∧ e = .returned (.tuple #[.slice none 0 0, .int .i64 2])))
def XorOwn (w : World) (key nonce : Nat → Nat) (ctr : Nat) (n : Nat) (f : Nat → Nat) (e : Ending) (w' : World) : Prop :=
  Below w.heap.size w w' ∧ ((ctr + (n + 63) / 64 ≤ 4294967296 ∧ ∃ A c, e = .returned (.tuple #[.slice A n c, .int .i64 0]) ∧ Own w' w.heap.size 5 A n c (xo key nonce ctr f)) ∨ (4294967296 < ctr + (n + 63) / 64 ∧ e = .returned (.tuple #[.slice none 0 0, .int .i64 2])))

set_option maxRecDepth 100000 in
set_option maxHeartbeats 2000000 in
theorem xor_own (b off c b' off' c' : Nat) (key nonce : Nat → Nat) (hk : ∀ i, key i < 256) (hno : ∀ i, nonce i < 256) (ctr : Nat) (hctr : ctr < 4294967296) (hc : 32 ≤ c) (hcm : c ≤ 9223372036854775807) (A : Option Addr) (n cA : Nat) (f : Nat → Nat) (hf : ∀ i, f i < 256) (hn : n ≤ 65536) (w : World) (hblk : b < w.heap.size) (hblk' : b' < w.heap.size)
    (hcell : ∀ i, i < 32 → w.cell? ⟨b, off + i, none⟩ = some (.int .u8 (key i))) (hcell' : ∀ i, i < 12 → w.cell? ⟨b', off' + i, none⟩ = some (.int .u8 (nonce i))) (hA : Rd w A n f) :
    Calls Try.prog 44 #[.slice (some ⟨b, off, none⟩) 32 c, .slice (some ⟨b', off', none⟩) 12 c', .int .u64 ctr, .slice A n cA] w (XorOwn w key nonce ctr n f) := by
  have HC := Lib.hid hcell
  have HC' := Lib.hid hcell'
  have HK := Lib.hid hk
  have HN := Lib.hid hno
  have HF := Lib.hid hf
  have HA := Lib.hid hA
  have hd : decide ((65536 : Int) < (n : Int)) = false := decide_eq_false (by omega)
  clear hcell hcell' hk hno hf hA
  go_enter Try.func44, Try.ntmps44
  go_wp2_with fail
  go_loopw [2, 10, 11, 12] (fun u o kk i wr => ∃ (j : Nat) (A' : Option Addr) (c' : Nat), j ≤ n ∧ ctr + (j + 63) / 64 ≤ 4294967296 ∧ i = .int .i64 j ∧ u = .int .u64 (ctr + (j + 63) / 64 : Nat) ∧ o = .slice A' j c' ∧ Own wr w.heap.size 5 A' j c' (xo key nonce ctr f) ∧ KOk wr A' kk key nonce ctr j ∧ Below w.heap.size w wr) (fun _ _ _ i _ => n - (intOf i).toNat)
  case atStart => exact ⟨0, none, 0, Nat.zero_le _, by omega, rfl, rfl, rfl, Own.nil _ _ _ _, ⟨none, 0, 0, rfl, fun h => absurd rfl h⟩, Below.refl _ _⟩
  case round =>
    obtain ⟨j, A', c9, hj, hfit, rfl, rfl, rfl, hown, hkk, hbel⟩ := hrel
    obtain ⟨AK, nk, ck, rfl, hkr⟩ := hkk
    have HO := Lib.hid hown
    have HL := Lib.hid hbel
    have HKR := Lib.hid hkr
    have hsz := hbel.size
    clear hown hbel hkr
    by_cases hlt : j < n
    · obtain ⟨bb, oo, hAe, hbb, hcc⟩ : ∃ bb oo, A = some ⟨bb, oo, none⟩ ∧ bb < w.heap.size ∧ ∀ i, i < n → w.cell? ⟨bb, oo + i, none⟩ = some (.int .u8 (f i : Nat)) := by
        rcases HA.out with h | ⟨bb, oo, h1, h2, h3⟩
        · omega
        · exact ⟨bb, oo, h1, h2, h3⟩
      have HBB := Lib.hid hbb
      have HCJ := Lib.hid (hcc j hlt)
      clear hcc hbb
      subst hAe
      have i1 : (j : Int) < (n : Int) := by omega
      by_cases hm : j % 64 = 0
      · have hz : ((j : Int) % 64 == 0) = true := by simp; omega
        have HU := Lib.hid (show (j + 63) / 64 = j / 64 by omega)
        rw [HU.out] at hfit ⊢
        obtain ⟨q, hq⟩ : ∃ q, q = ctr + j / 64 := ⟨_, rfl⟩
        rw [← hq] at hfit ⊢
        have HQ := Lib.hid hq
        clear hq
        by_cases hbig : 4294967295 < q
        · have hd2 : decide ((4294967295 : Int) < (q : Int)) = true := decide_eq_true (by omega)
          clear hm
          go_wp2_with fail
          go_ret2
          exact ⟨HL.out, .inr ⟨by have := HQ.out; omega, rfl⟩⟩
        · have hd2 : decide ((4294967295 : Int) < (q : Int)) = false := decide_eq_false (by omega)
          have HM := Lib.hid hm
          clear hm HKR
          go_wp2_with fail
          refine (block_ref b off c b' off' c' key nonce HK.out HN.out q (by omega) hc hcm wr (Nat.lt_of_lt_of_le hblk hsz) (Nat.lt_of_lt_of_le hblk' hsz) (fun i hi => (HL.out.cell (p := ⟨b, off + i, none⟩) hblk).trans (HC.out i hi)) (fun i hi => (HL.out.cell (p := ⟨b', off' + i, none⟩) hblk').trans (HC'.out i hi))).mono ?_
          rintro e w5 ⟨g5, d5, rfl, ho5, hb5⟩
          have hd5 : 64 ≤ d5 := Own.cap_le ho5 (by omega)
          have hgk := owns_lt ho5
          have HGK := Lib.hid hgk.2
          have HNE := Lib.hid (apart_new HO.out hgk.1)
          have HKW := Lib.hid (show KRow w5 g5 (blk key nonce q) from krow_own ho5)
          have HLW := Lib.hid (HL.out.trans (hb5.mono hsz))
          have hO := Own.below HO.out hb5 (Nat.le_refl _)
          clear ho5 hb5 hgk HO HL
          have HO := Lib.hid hO
          clear hO
          obtain ⟨m, hmE⟩ : ∃ m, m = j % 64 := ⟨_, rfl⟩
          have hm64 : m < 64 := by omega
          have i2 : (m : Int) < 64 := by omega
          have HX := Lib.hid (xo_step key nonce HF.out ctr j q m HQ.out hmE)
          have HT := Lib.hid (tmod_nat j m hmE)
          clear hmE
          have c3 := HCJ.out
          have c4 := HKW.out m hm64
          go_wp2_with fail
          refine region_drew (fun x => Below w.heap.size w x ∧ KRow x g5 (blk key nonce q)) (by kernel_rfl) ⟨Below.drew HLW.out, HKW.out⟩ ?_
          intro hS
          refine take 0 _ rfl (by kernel_rfl) (by kernel_rfl) (by kernel_rfl) (fun _ _ _ h => h) (by rfl) hS (by intro w _; go_simp; with_reducible rfl) ?_
          try simp only [Act.put, List.setIfInBounds_toArray, List.set_cons_zero, List.set_cons_succ]
          refine take 1 _ rfl (by kernel_rfl) (by kernel_rfl) (by kernel_rfl) (fun _ _ _ h => h) (by rfl) hS (by intro w _; go_simp; with_reducible rfl) ?_
          try simp only [Act.put, List.setIfInBounds_toArray, List.set_cons_zero, List.set_cons_succ]
          refine take 2 _ rfl (by kernel_rfl) (by kernel_rfl) (by kernel_rfl) (fun _ _ _ h => h) (by rfl) hS (by intro w _; go_simp; with_reducible rfl) ?_
          try simp only [Act.put, List.setIfInBounds_toArray, List.set_cons_zero, List.set_cons_succ]
          refine take 3 _ rfl (by kernel_rfl) (by kernel_rfl) (by kernel_rfl) (fun _ _ _ h => h) (by rfl) hS (by intro w _; go_simp; with_reducible rfl) ?_
          try simp only [Act.put, List.setIfInBounds_toArray, List.set_cons_zero, List.set_cons_succ]
          refine take 4 _ rfl (by kernel_rfl) (by kernel_rfl) (by kernel_rfl) (fun _ _ _ h => h) (by rfl) hS (by intro w hw; have hcl := (hw.1.cell (p := ⟨bb, oo + j, none⟩) HBB.out).trans HCJ.out; go_simp; with_reducible rfl) ?_
          try simp only [Act.put, List.setIfInBounds_toArray, List.set_cons_zero, List.set_cons_succ]
          refine take 5 _ rfl (by kernel_rfl) (by kernel_rfl) (by kernel_rfl) (fun _ _ _ h => h) (by rfl) hS (by intro w _; go_simp; with_reducible rfl) ?_
          try simp only [Act.put, List.setIfInBounds_toArray, List.set_cons_zero, List.set_cons_succ]
          refine take 6 _ rfl (by kernel_rfl) (by kernel_rfl) (by kernel_rfl) (fun _ _ _ h => h) (by rfl) hS (by intro w _; go_simp; with_reducible rfl) ?_
          try simp only [Act.put, List.setIfInBounds_toArray, List.set_cons_zero, List.set_cons_succ]
          refine take 7 _ rfl (by kernel_rfl) (by kernel_rfl) (by kernel_rfl) (fun _ _ _ h => h) (by rfl) hS (by intro w _; go_simp; with_reducible rfl) ?_
          try simp only [Act.put, List.setIfInBounds_toArray, List.set_cons_zero, List.set_cons_succ]
          rw [HT.out]
          refine take 8 _ rfl (by kernel_rfl) (by kernel_rfl) (by kernel_rfl) (fun _ _ _ h => h) (by rfl) hS (by intro w _; go_simp; with_reducible rfl) ?_
          try simp only [Act.put, List.setIfInBounds_toArray, List.set_cons_zero, List.set_cons_succ]
          refine take 9 _ rfl (by kernel_rfl) (by kernel_rfl) (by kernel_rfl) (fun _ _ _ h => h) (by rfl) hS (by intro w hw; have hcl := hw.2 m hm64; go_simp; with_reducible rfl) ?_
          try simp only [Act.put, List.setIfInBounds_toArray, List.set_cons_zero, List.set_cons_succ]
          refine take 10 _ rfl (by kernel_rfl) (by kernel_rfl) (by kernel_rfl) (fun _ _ _ h => h) (by rfl) hS (by intro w _; go_simp; with_reducible rfl) ?_
          try simp only [Act.put, List.setIfInBounds_toArray, List.set_cons_zero, List.set_cons_succ]
          rw [HX.out]
          refine alone 11 rfl (by kernel_rfl) (by rfl) ?_
          intro K hK
          go_simp
          have hS11 : Below w.heap.size w (w5.drew.alloc (Obj.cells #[.int .u8 (xo key nonce ctr f j : Nat)] 5)) ∧ KRow (w5.drew.alloc (Obj.cells #[.int .u8 (xo key nonce ctr f j : Nat)] 5)) g5 (blk key nonce q) := ⟨below_alloc' hS.1 hS.1.size _, krow_alloc hS.2 HGK.out _⟩
          refine hK.out _ _ hS11 ?_
          clear hK K
          try simp only [Act.put, List.setIfInBounds_toArray, List.set_cons_zero, List.set_cons_succ]
          refine alone 12 rfl (by kernel_rfl) (by rfl) ?_
          intro K hK
          refine wp_cat _ _ 23 5 (.int .u8 0) 1 Try.underlying23 info_u8 rfl rfl rfl (World.ownsRow.alloc (show Own w5.drew _ _ _ _ _ _ from HO.out) _) hS11.1 hS11.1.size ⟨w5.heap.size, 0, none⟩ 1 1 rfl [.int .u8 (xo key nonce ctr f j : Nat)] rfl (one_at w5.drew _ _) (by intro u hu; simp at hu; subst hu; rfl) (by omega) (by omega) ?_
          intro A2 c2 w7 ho7 hb7 hs7 hg7 hat7
          have hk7 := krow_grown hS11.2 hg7 (by simp; have := HGK.out; omega) HNE.out (own_form HO.out)
          have HNE7 := Lib.hid (apart_at hat7 HNE.out (by simp; have := HGK.out; omega) (own_form HO.out) ho7)
          have hgk7 : g5 < w7.heap.size := Nat.lt_of_lt_of_le (by simp; have := HGK.out; omega) hg7.size
          refine hK.out _ _ ⟨hb7, hk7⟩ ?_
          clear hK K hS hS11 hat7 hg7
          have hS : Below w.heap.size w w7 ∧ KRow w7 g5 (blk key nonce q) := ⟨hb7, hk7⟩
          rw [← byteCells_snoc] at ho7
          have HO7 := Lib.hid (show Own w7 w.heap.size 5 A2 (j + 1) c2 (xo key nonce ctr f) from ho7)
          clear ho7 hb7 hk7
          try simp only [Act.put, List.setIfInBounds_toArray, List.set_cons_zero, List.set_cons_succ]
          refine take 13 _ rfl (by kernel_rfl) (by kernel_rfl) (by kernel_rfl) (fun _ _ _ h => h) (by rfl) hS (by intro w _; go_simp; with_reducible rfl) ?_
          try simp only [Act.put, List.setIfInBounds_toArray, List.set_cons_zero, List.set_cons_succ]
          refine region_end (by kernel_rfl) ?_
          have HL7 := Lib.hid hS.1
          have HK7 := Lib.hid hS.2
          have HG7 := Lib.hid hgk7
          clear hS hgk7 i2 hm64 c3 c4 HT HX
          go_wp2_with fail
          go_roundw
          case rel => exact ⟨j + 1, A2, c2, by omega, by have := HQ.out; have := HM.out; omega, by go_num, by rw [show ctr + (j + 1 + 63) / 64 = q + 1 by have := HQ.out; have := HM.out; omega]; go_num, rfl, HO7.out, ⟨_, _, _, rfl, fun h => ⟨rfl, g5, rfl, HG7.out, HNE7.out, by rw [show ctr + (j + 1) / 64 = q by have := HQ.out; omega]; exact HK7.out⟩⟩, HL7.out⟩
          case measure => simp [intOf]; omega
      · have hz : ((j : Int) % 64 == 0) = false := by simp; omega
        have HM := Lib.hid hm
        obtain ⟨rfl, g5, rfl, hgk, hne, hrow⟩ := HKR.out hm
        obtain ⟨q, hq⟩ : ∃ q, q = ctr + j / 64 := ⟨_, rfl⟩
        rw [← hq] at hrow
        have HQ := Lib.hid hq
        have HGK := Lib.hid hgk
        have HNE := Lib.hid hne
        have HKW := Lib.hid hrow
        have HLW := Lib.hid HL.out
        obtain ⟨u, hu⟩ : ∃ u, u = ctr + (j + 63) / 64 := ⟨_, rfl⟩
        rw [← hu]
        have HU := Lib.hid hu
        clear hm HKR hgk hne hrow HL hq hu
        obtain ⟨m, hmE⟩ : ∃ m, m = j % 64 := ⟨_, rfl⟩
        have hm64 : m < 64 := by omega
        have i2 : (m : Int) < 64 := by omega
        have HX := Lib.hid (xo_step key nonce HF.out ctr j q m HQ.out hmE)
        have HT := Lib.hid (tmod_nat j m hmE)
        clear hmE
        have c3 := HCJ.out
        have c4 := HKW.out m hm64
        go_wp2_with fail
        refine region_drew (fun x => Below w.heap.size w x ∧ KRow x g5 (blk key nonce q)) (by kernel_rfl) ⟨Below.drew HLW.out, HKW.out⟩ ?_
        intro hS
        refine take 0 _ rfl (by kernel_rfl) (by kernel_rfl) (by kernel_rfl) (fun _ _ _ h => h) (by rfl) hS (by intro w _; go_simp; with_reducible rfl) ?_
        try simp only [Act.put, List.setIfInBounds_toArray, List.set_cons_zero, List.set_cons_succ]
        refine take 1 _ rfl (by kernel_rfl) (by kernel_rfl) (by kernel_rfl) (fun _ _ _ h => h) (by rfl) hS (by intro w _; go_simp; with_reducible rfl) ?_
        try simp only [Act.put, List.setIfInBounds_toArray, List.set_cons_zero, List.set_cons_succ]
        refine take 2 _ rfl (by kernel_rfl) (by kernel_rfl) (by kernel_rfl) (fun _ _ _ h => h) (by rfl) hS (by intro w _; go_simp; with_reducible rfl) ?_
        try simp only [Act.put, List.setIfInBounds_toArray, List.set_cons_zero, List.set_cons_succ]
        refine take 3 _ rfl (by kernel_rfl) (by kernel_rfl) (by kernel_rfl) (fun _ _ _ h => h) (by rfl) hS (by intro w _; go_simp; with_reducible rfl) ?_
        try simp only [Act.put, List.setIfInBounds_toArray, List.set_cons_zero, List.set_cons_succ]
        refine take 4 _ rfl (by kernel_rfl) (by kernel_rfl) (by kernel_rfl) (fun _ _ _ h => h) (by rfl) hS (by intro w hw; have hcl := (hw.1.cell (p := ⟨bb, oo + j, none⟩) HBB.out).trans HCJ.out; go_simp; with_reducible rfl) ?_
        try simp only [Act.put, List.setIfInBounds_toArray, List.set_cons_zero, List.set_cons_succ]
        refine take 5 _ rfl (by kernel_rfl) (by kernel_rfl) (by kernel_rfl) (fun _ _ _ h => h) (by rfl) hS (by intro w _; go_simp; with_reducible rfl) ?_
        try simp only [Act.put, List.setIfInBounds_toArray, List.set_cons_zero, List.set_cons_succ]
        refine take 6 _ rfl (by kernel_rfl) (by kernel_rfl) (by kernel_rfl) (fun _ _ _ h => h) (by rfl) hS (by intro w _; go_simp; with_reducible rfl) ?_
        try simp only [Act.put, List.setIfInBounds_toArray, List.set_cons_zero, List.set_cons_succ]
        refine take 7 _ rfl (by kernel_rfl) (by kernel_rfl) (by kernel_rfl) (fun _ _ _ h => h) (by rfl) hS (by intro w _; go_simp; with_reducible rfl) ?_
        try simp only [Act.put, List.setIfInBounds_toArray, List.set_cons_zero, List.set_cons_succ]
        rw [HT.out]
        refine take 8 _ rfl (by kernel_rfl) (by kernel_rfl) (by kernel_rfl) (fun _ _ _ h => h) (by rfl) hS (by intro w _; go_simp; with_reducible rfl) ?_
        try simp only [Act.put, List.setIfInBounds_toArray, List.set_cons_zero, List.set_cons_succ]
        refine take 9 _ rfl (by kernel_rfl) (by kernel_rfl) (by kernel_rfl) (fun _ _ _ h => h) (by rfl) hS (by intro w hw; have hcl := hw.2 m hm64; go_simp; with_reducible rfl) ?_
        try simp only [Act.put, List.setIfInBounds_toArray, List.set_cons_zero, List.set_cons_succ]
        refine take 10 _ rfl (by kernel_rfl) (by kernel_rfl) (by kernel_rfl) (fun _ _ _ h => h) (by rfl) hS (by intro w _; go_simp; with_reducible rfl) ?_
        try simp only [Act.put, List.setIfInBounds_toArray, List.set_cons_zero, List.set_cons_succ]
        rw [HX.out]
        refine alone 11 rfl (by kernel_rfl) (by rfl) ?_
        intro K hK
        go_simp
        have hS11 : Below w.heap.size w (wr.drew.alloc (Obj.cells #[.int .u8 (xo key nonce ctr f j : Nat)] 5)) ∧ KRow (wr.drew.alloc (Obj.cells #[.int .u8 (xo key nonce ctr f j : Nat)] 5)) g5 (blk key nonce q) := ⟨below_alloc' hS.1 hS.1.size _, krow_alloc hS.2 HGK.out _⟩
        refine hK.out _ _ hS11 ?_
        clear hK K
        try simp only [Act.put, List.setIfInBounds_toArray, List.set_cons_zero, List.set_cons_succ]
        refine alone 12 rfl (by kernel_rfl) (by rfl) ?_
        intro K hK
        refine wp_cat _ _ 23 5 (.int .u8 0) 1 Try.underlying23 info_u8 rfl rfl rfl (World.ownsRow.alloc (show Own wr.drew _ _ _ _ _ _ from HO.out) _) hS11.1 hS11.1.size ⟨wr.heap.size, 0, none⟩ 1 1 rfl [.int .u8 (xo key nonce ctr f j : Nat)] rfl (one_at wr.drew _ _) (by intro u hu; simp at hu; subst hu; rfl) (by omega) (by omega) ?_
        intro A2 c2 w7 ho7 hb7 hs7 hg7 hat7
        have hk7 := krow_grown hS11.2 hg7 (by simp; have := HGK.out; omega) HNE.out (own_form HO.out)
        have HNE7 := Lib.hid (apart_at hat7 HNE.out (by simp; have := HGK.out; omega) (own_form HO.out) ho7)
        have hgk7 : g5 < w7.heap.size := Nat.lt_of_lt_of_le (by simp; have := HGK.out; omega) hg7.size
        refine hK.out _ _ ⟨hb7, hk7⟩ ?_
        clear hK K hS hS11 hat7 hg7
        have hS : Below w.heap.size w w7 ∧ KRow w7 g5 (blk key nonce q) := ⟨hb7, hk7⟩
        rw [← byteCells_snoc] at ho7
        have HO7 := Lib.hid (show Own w7 w.heap.size 5 A2 (j + 1) c2 (xo key nonce ctr f) from ho7)
        clear ho7 hb7 hk7
        try simp only [Act.put, List.setIfInBounds_toArray, List.set_cons_zero, List.set_cons_succ]
        refine take 13 _ rfl (by kernel_rfl) (by kernel_rfl) (by kernel_rfl) (fun _ _ _ h => h) (by rfl) hS (by intro w _; go_simp; with_reducible rfl) ?_
        try simp only [Act.put, List.setIfInBounds_toArray, List.set_cons_zero, List.set_cons_succ]
        refine region_end (by kernel_rfl) ?_
        have HL7 := Lib.hid hS.1
        have HK7 := Lib.hid hS.2
        have HG7 := Lib.hid hgk7
        clear hS hgk7 i2 hm64 c3 c4 HT HX
        go_wp2_with fail
        go_roundw
        case rel => exact ⟨j + 1, A2, c2, by omega, by have := HM.out; omega, by go_num, by rw [show ctr + (j + 1 + 63) / 64 = u by have := HU.out; have := HM.out; omega], rfl, HO7.out, ⟨_, _, _, rfl, fun h => ⟨rfl, g5, rfl, HG7.out, HNE7.out, by rw [show ctr + (j + 1) / 64 = q by have := HQ.out; omega]; exact HK7.out⟩⟩, HL7.out⟩
        case measure => simp [intOf]; omega
    · obtain rfl : j = n := by omega
      go_wp2_with fail
      go_ret2
      exact ⟨HL.out, .inl ⟨hfit, _, _, rfl, HO.out⟩⟩

theorem xor_ref (b off c b' off' c' : Nat) (key nonce : Nat → Nat) (hk : ∀ i, key i < 256) (hno : ∀ i, nonce i < 256) (ctr : Nat) (hctr : ctr < 4294967296) (hc : 32 ≤ c) (hcm : c ≤ 9223372036854775807) (A : Option Addr) (n cA : Nat) (f : Nat → Nat) (hf : ∀ i, f i < 256) (hn : n ≤ 65536) (w : World) (hblk : b < w.heap.size) (hblk' : b' < w.heap.size)
    (hcell : ∀ i, i < 32 → w.cell? ⟨b, off + i, none⟩ = some (.int .u8 (key i))) (hcell' : ∀ i, i < 12 → w.cell? ⟨b', off' + i, none⟩ = some (.int .u8 (nonce i))) (hA : Rd w A n f) :
    Calls Try.prog 44 #[.slice (some ⟨b, off, none⟩) 32 c, .slice (some ⟨b', off', none⟩) 12 c', .int .u64 ctr, .slice A n cA] w (XorPost w key nonce ctr n f) := by
  refine (xor_own b off c b' off' c' key nonce hk hno ctr hctr hc hcm A n cA f hf hn w hblk hblk' hcell hcell' hA).mono ?_
  rintro e w' ⟨hb, h | h⟩
  · obtain ⟨h1, A', c2, h2, h3⟩ := h
    exact ⟨hb, .inl ⟨h1, A', c2, h2, h3.rd⟩⟩
  · exact ⟨hb, .inr h⟩

end Ref
end Go.Proofs.Ytdffbjlbhjppeaa
