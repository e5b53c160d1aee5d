/- Limiters apart: the mathematics and the frame of LimiterApart. -/
import Derived.Test.YtlccgplgbokgkaaLimOne
namespace Go.Proofs.Ytlccgplgbokgkaa
namespace Lim
open Go.ChangeShapes Go.WideShapes Go.ChangeAt Go.RowKit Go.Maps
open Num Mem Words Chacha Aead Poly Adr Ops Quiet Stamp RowV

/-- of the old blocks only those of S have turned -/
structure Chg (S : Nat → Prop) (w w' : World) : Prop where
  os : w'.os = w.os
  tape : w'.tape = w.tape
  output : w'.output = w.output
  size : w.heap.size ≤ w'.heap.size
  block : ∀ i, i < w.heap.size → ¬ S i → w'.heap[i]? = w.heap[i]?
theorem Chg.refl (S : Nat → Prop) (w : World) : Chg S w w := ⟨rfl, rfl, rfl, Nat.le_refl _, fun _ _ _ => rfl⟩
theorem Chg.two {S : Nat → Prop} {x y z : World} (h : Chg S x y) {g b : Nat} (k : Two g b y z) (hg : S g) (hb : S b) : Chg S x z :=
  ⟨k.os.trans h.os, k.tape.trans h.tape, k.output.trans h.output, Nat.le_trans h.size k.size, fun i hi hs => (k.block i (Nat.lt_of_lt_of_le hi h.size) (fun e => hs (e ▸ hg)) (fun e => hs (e ▸ hb))).trans (h.block i hi hs)⟩
theorem Chg.over {S : Nat → Prop} {x y z : World} (h : Chg S x y) (k : Below x.heap.size y z) : Chg S x z :=
  ⟨k.os.trans h.os, k.tape.trans h.tape, k.output.trans h.output, Nat.le_trans h.size k.size, fun i hi hs => (k.block i hi).trans (h.block i hi hs)⟩
theorem Chg.whole {S : Nat → Prop} {x y : World} (h : Chg S x y) {i : Nat} {t : TypeId} {cs : Array Value} (hw : Whole x i t cs) (hs : ¬ S i) : Whole y i t cs := (h.block i hw.lt hs).trans hw
theorem Chg.cell {S : Nat → Prop} {x y : World} (h : Chg S x y) {i o : Nat} {v : Value} (hw : x.cell? ⟨i, o, none⟩ = some v) (hi : i < x.heap.size) (hs : ¬ S i) : y.cell? ⟨i, o, none⟩ = some v := by
  rw [← hw]
  unfold World.cell?
  rw [h.block i hi hs]
theorem Chg.below {S : Nat → Prop} {x y : World} (h : Chg S x y) {B : Nat} (hB : B ≤ x.heap.size) (hs : ∀ i, S i → B ≤ i) : Below B x y := ⟨h.os, h.tape, h.output, h.size, fun i hi => h.block i (by omega) (fun k => by have := hs i k; omega)⟩

structure AP (Ky : Nat → Lit) (Ls : Nat → List Bk) (la : Nat → Int) (T : Int) : Prop where
  la0 : la 0 = T
  lale : ∀ j, j < 5 → la j ≤ T
  good : ∀ j, j < 5 → Good (Ls j) (la j)
  key : ∀ j, j < 4 → WideAt.IsKeyLit (Ky j)
  k0 : ∀ x ∈ keysL (Ls 0), x ∈ [Ky 0, Ky 1, Ky 2, Ky 3]
  kj : ∀ j, j < 4 → ∀ x ∈ keysL (Ls (j + 1)), x ∈ [Ky j]
  same : ∀ j, j < 4 → Same T (lk (Ls 0) (Ky j)) (lk (Ls (j + 1)) (Ky j))
  inj : ∀ i j, i < 4 → j < 4 → Ky i = Ky j → i = j
theorem ap_start {Ky : Nat → Lit} (hk : ∀ j, j < 4 → WideAt.IsKeyLit (Ky j)) (hi : ∀ i j, i < 4 → j < 4 → Ky i = Ky j → i = j) : AP Ky (fun _ => []) (fun _ => 0) 0 where
  la0 := rfl
  lale := fun _ _ => Int.le_refl _
  good := fun _ _ => good_new
  key := hk
  k0 := fun x hx => by simp [keysL] at hx
  kj := fun _ _ x hx => by simp [keysL] at hx
  same := fun _ _ _ _ => rfl
  inj := hi
def upd2 {α : Type} (F : Nat → α) (k : Nat) (x y : α) : Nat → α := fun j => if j = 0 then x else if j = k + 1 then y else F j
theorem upd2_0 {α : Type} (F : Nat → α) (k : Nat) (x y : α) : upd2 F k x y 0 = x := rfl
theorem upd2_k {α : Type} (F : Nat → α) (k : Nat) (x y : α) : upd2 F k x y (k + 1) = y := by unfold upd2; rw [if_neg (by omega), if_pos rfl]
theorem upd2_o {α : Type} (F : Nat → α) (k : Nat) (x y : α) {j : Nat} (h0 : j ≠ 0) (h1 : j ≠ k + 1) : upd2 F k x y j = F j := by unfold upd2; rw [if_neg h0, if_neg h1]
theorem AP.all4 {Ky : Nat → Lit} {Ls : Nat → List Bk} {la : Nat → Int} {T : Int} (h : AP Ky Ls la T) : (Ls 0).length ≤ 4 := few (h.good 0 (by omega)).nd h.k0
theorem AP.one {Ky : Nat → Lit} {Ls : Nat → List Bk} {la : Nat → Int} {T : Int} (h : AP Ky Ls la T) {j : Nat} (hj : j < 4) : (Ls (j + 1)).length ≤ 1 := few (h.good (j + 1) (by omega)).nd (h.kj j hj)
theorem key_in {Ky : Nat → Lit} {k : Nat} (hk : k < 4) : Ky k ∈ [Ky 0, Ky 1, Ky 2, Ky 3] := by
  rcases (by omega : k = 0 ∨ k = 1 ∨ k = 2 ∨ k = 3) with rfl | rfl | rfl | rfl <;> simp
theorem AP.step {Ky : Nat → Lit} {Ls : Nat → List Bk} {la : Nat → Int} {T : Int} (h : AP Ky Ls la T) {k : Nat} (hk : k < 4) {t : Int} (ht : okT t) (hT : T ≤ t) :
    ∃ r L0 Lk, ask (Ls 0) (la 0) (some (Ky k)) t = (r, 0, L0, t) ∧ ask (Ls (k + 1)) (la (k + 1)) (some (Ky k)) t = (r, 0, Lk, t) ∧ AP Ky (upd2 Ls k L0 Lk) (upd2 la k t t) t := by
  have h4 := h.all4
  have h1 := h.one hk
  have hl0 : la 0 ≤ t := by rw [h.la0]; exact hT
  have hlk : la (k + 1) ≤ t := Int.le_trans (h.lale (k + 1) (by omega)) hT
  have e0 := ask_at (h.good 0 (by omega)) (k := Ky k) ht hl0 (Or.inr (by omega))
  have e1 := ask_at (h.good (k + 1) (by omega)) (k := Ky k) ht hlk (Or.inr (by omega))
  have hs := h.same k hk t hT
  rw [← hs] at e1
  have hb : 0 ≤ eff (lk (Ls 0) (Ky k)) t ∧ eff (lk (Ls 0) (Ky k)) t ≤ 250 := by
    cases hv : lk (Ls 0) (Ky k) with
    | none => exact ⟨by show (0 : Int) ≤ 250; omega, Int.le_refl _⟩
    | some v => exact lev_bounds ((h.good 0 (by omega)).lk hv).1 t
  refine ⟨_, _, _, e0, e1, ?_⟩
  obtain ⟨E, hE⟩ : ∃ E, eff (lk (Ls 0) (Ky k)) t = E := ⟨_, rfl⟩
  rw [hE] at hb ⊢
  obtain ⟨x, hx, hx0, hx1⟩ : ∃ x, (if 50 ≤ E then E - 50 else E) = x ∧ 0 ≤ x ∧ x ≤ 250 := ⟨_, rfl, by split <;> omega, by split <;> omega⟩
  rw [hx]
  have hkk := h.key k hk
  have g0 : Good (putL (left1000 t (Ls 0)) (Ky k) (x, t)) t := good_put (good_left (h.good 0 (by omega)) ht hl0) hkk hx0 hx1 (Or.inr (Nat.lt_of_le_of_lt (List.length_filter_le _ _) (by omega)))
  have g1 : Good (putL (left1000 t (Ls (k + 1))) (Ky k) (x, t)) t := good_put (good_left (h.good (k + 1) (by omega)) ht hlk) hkk hx0 hx1 (Or.inr (Nat.lt_of_le_of_lt (List.length_filter_le _ _) (by omega)))
  constructor
  · exact upd2_0 _ _ _ _
  · intro j hj
    by_cases j0 : j = 0
    · subst j0; rw [upd2_0]; exact Int.le_refl _
    · by_cases j1 : j = k + 1
      · subst j1; rw [upd2_k]; exact Int.le_refl _
      · rw [upd2_o _ _ _ _ j0 j1]; exact Int.le_trans (h.lale j hj) hT
  · intro j hj
    by_cases j0 : j = 0
    · subst j0; rw [upd2_0, upd2_0]; exact g0
    · by_cases j1 : j = k + 1
      · subst j1; rw [upd2_k, upd2_k]; exact g1
      · rw [upd2_o _ _ _ _ j0 j1, upd2_o _ _ _ _ j0 j1]; exact h.good j hj
  · exact h.key
  · rw [upd2_0]; exact keys_put (keys_left h.k0) (key_in hk)
  · intro j hj
    by_cases j1 : j = k
    · subst j1; rw [upd2_k]; exact keys_put (keys_left (h.kj j hj)) (by simp)
    · rw [upd2_o _ _ _ _ (by omega) (by omega)]; exact h.kj j hj
  · intro j hj
    rw [upd2_0]
    by_cases j1 : j = k
    · subst j1
      rw [upd2_k]
      intro t' _
      rw [lk_put, lk_put, if_pos rfl, if_pos rfl]
    · rw [upd2_o _ _ _ _ (by omega) (by omega)]
      have hne : Ky j ≠ Ky k := fun e => j1 (h.inj j k hj hk e)
      have := same_left (h.good 0 (by omega)) (h.same j hj |> fun hh => (show Same (la 0) _ _ from by rw [h.la0]; exact hh)) hl0
      intro t' ht'
      rw [lk_put, if_neg hne]
      exact this t' ht'
  · exact h.inj

/-- the bytes of the address of kind k -/
def apF (k q : Nat) (i : Nat) : Nat := if i = 0 then k else if i = 15 then q else 0
theorem apF_lt {k q : Nat} (hk : k < 256) (hq : q < 256) (i : Nat) : apF k q i < 256 := by unfold apF; split <;> (try split) <;> omega
theorem ap_built1 (k : Nat) : Try.prog.built 23 [(0, .int .u8 (k : Nat))] = some (byteCells (apF k 0) 16).toArray := by kernel_rfl
theorem ap_built2 (k q : Nat) : Try.prog.built 23 [(0, .int .u8 (k : Nat)), (15, .int .u8 (q : Nat))] = some (byteCells (apF k q) 16).toArray := by kernel_rfl
theorem addr_built4 (f : Nat → Nat) : Try.prog.built 25 [(1, .agg (byteCells f 16).toArray)] = some (addrL false f).toArray := by kernel_rfl
theorem addr_built6 (f : Nat → Nat) : Try.prog.built 25 [(0, .bool true), (1, .agg (byteCells f 16).toArray)] = some (addrL true f).toArray := by kernel_rfl
/-- its key -/
def apK (P : Program) (T : TypeId) (k : Nat) : Lit := klit P T (decide (1 < k)) (apF (k % 4) 0) (bitsOf (decide (1 < k)))
theorem ap_place4 {k : Nat} (hk : k < 2) : placeO Try.prog 57 false (apF k 0) = some (apK Try.prog 57 k) := by
  have hr : rightB false (apF k 0) = true := by
    unfold rightB
    rw [Bool.false_or, decide_eq_true_eq]
    intro i h4
    unfold apF
    rw [if_neg (by omega)]
    split <;> rfl
  rw [place_pl (apF_lt (by omega) (by omega)) hr]
  unfold apK
  rw [decide_eq_false (by omega), Nat.mod_eq_of_lt (by omega), klit_congr (g := apF k 0) fun i _ => by unfold plF; rw [if_neg (by simp)]]
theorem ap_place6 {k q : Nat} (hk : 1 < k) (hk4 : k < 4) (hq : q < 256) : placeO Try.prog 57 true (apF k q) = some (apK Try.prog 57 k) := by
  have hr : rightB true (apF k q) = true := rfl
  rw [place_pl (apF_lt (by omega) hq) hr]
  unfold apK
  rw [decide_eq_true hk, Nat.mod_eq_of_lt hk4]
  refine congrArg some (klit_congr fun i hi => ?_)
  unfold plF apF
  by_cases h8 : 8 ≤ i
  · rw [if_pos ⟨rfl, h8⟩, if_neg (by omega)]
    split <;> rfl
  · rw [if_neg (by omega)]
    split
    · rfl
    · rw [if_neg (by omega), if_neg (by omega)]
theorem apK_key (k : Nat) : WideAt.IsKeyLit (apK Try.prog 57 k) := klit_key _ _ (apF_lt (by have := Nat.mod_lt k (show 0 < 4 by omega); omega) (by omega)) _ (bits_lo _) (bits_hi _)
theorem apK_inj (i j : Nat) (hi : i < 4) (hj : j < 4) (h : apK Try.prog 57 i = apK Try.prog 57 j) : i = j := by
  unfold apK at h
  rw [Nat.mod_eq_of_lt hi, Nat.mod_eq_of_lt hj] at h
  have := (klit_inj (apF_lt (by omega) (by omega)) (apF_lt (by omega) (by omega)) (bits_lo _) (bits_hi _) (bits_lo _) (bits_hi _) h).2.1 0 (by omega)
  simpa [apF] using this
end Lim
end Go.Proofs.Ytlccgplgbokgkaa
