/- A prefix as a map's key; an address' place as a key. -/
import Derived.Test.YtlccgplgbokgkaaPref
import Derived.Test.YtlccgplgbokgkaaEqLits
import Derived.Test.YtlccgplgbokgkaaLimMath
import Derived.DeepKeys5
namespace Go.Proofs.Ytlccgplgbokgkaa
namespace Lim
open Go.ChangeShapes Go.WideShapes Go.ChangeAt Go.RowKit
open Num Mem Words Chacha Aead Poly Adr EqLits

theorem lits_bool {P : Program} {e : TypeId} (he : P.underlying e = some .bool) (d : Nat) (b : Bool) : (P.keyLits (d + 1) e [.bool b]).isSome = true := by
  unfold Program.keyLits
  simp only [he]
  rfl
theorem lits_int {P : Program} {e : TypeId} {q : IntKind} (he : P.underlying e = some (.int q)) (d : Nat) (a : Int) (h : (Lit.int q a).wf = true) : (P.keyLits (d + 1) e [.int q a]).isSome = true := by
  unfold Program.keyLits
  simp only [he]
  rw [if_pos ⟨trivial, h⟩]
  rfl
theorem wf_u8 (a : Nat) (ha : a < 256) : (Lit.int .u8 (a : Nat)).wf = true := by
  have h0 : IntKind.min .u8 = 0 := by decide
  have h1 : IntKind.max .u8 = 255 := by decide
  show (decide (IntKind.min .u8 ≤ (a : Int)) && decide ((a : Int) ≤ IntKind.max .u8)) = true
  rw [h0, h1, Bool.and_eq_true, decide_eq_true_eq, decide_eq_true_eq]
  omega
theorem wf_i64 (a : Int) (h0 : -9223372036854775808 ≤ a) (h1 : a ≤ 9223372036854775807) : (Lit.int .i64 a).wf = true := by
  have e0 : IntKind.min .i64 = -9223372036854775808 := by decide
  have e1 : IntKind.max .i64 = 9223372036854775807 := by decide
  show (decide (IntKind.min .i64 ≤ a) && decide (a ≤ IntKind.max .i64)) = true
  rw [e0, e1, Bool.and_eq_true, decide_eq_true_eq, decide_eq_true_eq]
  exact ⟨h0, h1⟩

theorem lawP : WideMaps.KeyLaw Try.prog 57 := deep_law (m := 4) (by omega) (by kernel_rfl) (by kernel_rfl) (by kernel_rfl)
theorem keyedP : Maps.Keyed Try.prog 57 := Maps.Keyed.of_law lawP

theorem cells_u8 : Try.prog.cellsOf 5 = 1 := by kernel_rfl
theorem cells_16 : Try.prog.cellsOf 23 = 16 := by kernel_rfl
theorem cells_bool : Try.prog.cellsOf 4 = 1 := by kernel_rfl
theorem cells_int : Try.prog.cellsOf 3 = 1 := by kernel_rfl
theorem cells_addr : Try.prog.cellsOf 25 = 17 := by kernel_rfl
theorem cells_pref : Try.prog.cellsOf 57 = 18 := by kernel_rfl

theorem lits_bytes (f : Nat → Nat) (hf : ∀ i, f i < 256) (d : Nat) : (Try.prog.keyLits (d + 2) 23 (byteCells f 16)).isSome = true := by
  refine lits_array Try.underlying23 (d + 1) _ (by rw [byteCells_length, cells_16]) fun i hi => ?_
  rw [cells_u8, Nat.mul_one]
  have e : ((byteCells f 16).drop i).take 1 = [.int .u8 (f i : Nat)] := by
    apply List.ext_getElem?
    intro j
    rw [List.getElem?_take]
    by_cases hj : j < 1
    · rw [if_pos hj, show j = 0 by omega, List.getElem?_drop, Nat.add_zero, byteCells_get _ _ _ hi]; rfl
    · rw [if_neg hj, List.getElem?_eq_none (by simp; omega)]
  rw [e]
  exact lits_int Try.underlying5 d _ (wf_u8 _ (hf i))
theorem lits_addr (s : Bool) (f : Nat → Nat) (hf : ∀ i, f i < 256) (d : Nat) : (Try.prog.keyLits (d + 3) 25 (addrL s f)).isSome = true := by
  refine lits_struct Try.underlying25 (d + 2) _ (by rw [addrL_length, cells_addr]) (by decide +kernel) ?_
  intro x hx
  simp only [List.mem_cons, List.not_mem_nil, or_false] at hx
  rcases hx with rfl | rfl
  · rw [cells_bool]
    exact lits_bool Try.underlying4 (d + 1) s
  · rw [cells_16]
    have e : ((addrL s f).drop 1).take 16 = byteCells f 16 := List.take_of_length_le (by simp [addrL, byteCells_length])
    rw [e]
    exact lits_bytes f hf d
theorem lits_pref (s : Bool) (f : Nat → Nat) (hf : ∀ i, f i < 256) (z : Int) (h0 : -9223372036854775808 ≤ z) (h1 : z ≤ 9223372036854775807) (d : Nat) : (Try.prog.keyLits (d + 4) 57 (prefL s f z)).isSome = true := by
  refine lits_struct Try.underlying57 (d + 3) _ (by rw [prefL_length, cells_pref]) (by decide +kernel) ?_
  intro x hx
  simp only [List.mem_cons, List.not_mem_nil, or_false] at hx
  rcases hx with rfl | rfl
  · rw [cells_addr]
    have e : ((prefL s f z).drop 0).take 17 = addrL s f := by
      rw [List.drop_zero]
      unfold prefL
      rw [List.take_append_of_le_length (by rw [addrL_length]; omega), List.take_of_length_le (by rw [addrL_length]; omega)]
    rw [e]
    exact lits_addr s f hf d
  · rw [cells_int]
    have e : ((prefL s f z).drop 17).take 1 = [.int .i64 z] := by
      unfold prefL
      rw [List.drop_append_of_le_length (by rw [addrL_length]; omega), List.drop_of_length_le (by rw [addrL_length]; omega)]
      rfl
    rw [e]
    exact lits_int Try.underlying3 (d + 2) _ (wf_i64 z h0 h1)

/-- a prefix as a key -/
def klit (P : Program) (T : TypeId) (s : Bool) (f : Nat → Nat) (z : Int) : Lit := (keyOf P T (.agg (prefL s f z).toArray)).getD (.bool false)
theorem key_type : Try.prog.keyType 57 = true := by kernel_rfl
theorem key_pref (s : Bool) (f : Nat → Nat) (hf : ∀ i, f i < 256) (z : Int) (h0 : -9223372036854775808 ≤ z) (h1 : z ≤ 9223372036854775807) : keyOf Try.prog 57 (.agg (prefL s f z).toArray) = some (klit Try.prog 57 s f z) := by
  have h : (keyOf Try.prog 57 (.agg (prefL s f z).toArray)).isSome = true := by
    unfold keyOf
    simp only [Try.underlying57]
    have hfm : (Value.agg (prefL s f z).toArray).formed Try.prog 57 = true := by
      simp only [Value.formed, Try.underlying57, pref_size, cells_pref]
      decide
    rw [key_type, hfm]
    simp only [Bool.and_self, if_true, Option.isSome_map]
    obtain ⟨d, hd⟩ : ∃ d, Try.prog.types.size + 1 = d + 4 := ⟨Try.prog.types.size - 3, by
      have : 4 ≤ Try.prog.types.size := by decide +kernel
      omega⟩
    rw [hd]
    exact lits_pref s f hf z h0 h1 d
  unfold klit
  cases hk : keyOf Try.prog 57 (.agg (prefL s f z).toArray) with
  | none => rw [hk] at h; cases h
  | some l => rfl
theorem klit_key (s : Bool) (f : Nat → Nat) (hf : ∀ i, f i < 256) (z : Int) (h0 : -9223372036854775808 ≤ z) (h1 : z ≤ 9223372036854775807) : WideAt.IsKeyLit (klit Try.prog 57 s f z) := keyedP.key (key_pref s f hf z h0 h1)
theorem klit_congr {s : Bool} {f g : Nat → Nat} {z : Int} (h : ∀ i, i < 16 → f i = g i) : klit Try.prog 57 s f z = klit Try.prog 57 s g z := by
  unfold klit
  rw [pref_congr h]
theorem klit_inj {s s' : Bool} {f f' : Nat → Nat} (hf : ∀ i, f i < 256) (hf' : ∀ i, f' i < 256) {z z' : Int} (h0 : -9223372036854775808 ≤ z) (h1 : z ≤ 9223372036854775807) (h0' : -9223372036854775808 ≤ z') (h1' : z' ≤ 9223372036854775807)
    (h : klit Try.prog 57 s f z = klit Try.prog 57 s' f' z') : s = s' ∧ (∀ i, i < 16 → f i = f' i) ∧ z = z' := by
  have e := keyedP.inj (key_pref s f hf z h0 h1) (h ▸ key_pref s' f' hf' z' h0' h1')
  injection e with e
  have e := congrArg Array.toList e
  simp only at e
  refine ⟨?_, fun i hi => ?_, ?_⟩
  · have := congrArg (fun l : List Value => l[0]?) e
    simp only [pref_six, Option.some.injEq, Value.bool.injEq] at this
    exact this
  · have := congrArg (fun l : List Value => l[1 + i]?) e
    simp only [pref_byte _ _ _ i hi, Option.some.injEq, Value.int.injEq] at this
    omega
  · have := congrArg (fun l : List Value => l[17]?) e
    simp only [pref_bits, Option.some.injEq, Value.int.injEq] at this
    exact this.2

/-- how many digits of an address' place count -/
def bitsOf (s : Bool) : Int := if s then 64 else 32
/-- an address' place as a key -/
def placeO (P : Program) (T : TypeId) (s : Bool) (f : Nat → Nat) : Option Lit := if rightB s f then some (klit P T s (maskF (bitsOf s) f) (bitsOf s)) else none
/-- the bytes of an address' place -/
def plF (s : Bool) (f : Nat → Nat) (i : Nat) : Nat := if s = true ∧ 8 ≤ i then 0 else f i
theorem plF_lt {f : Nat → Nat} (hf : ∀ i, f i < 256) (s : Bool) (i : Nat) : plF s f i < 256 := by
  unfold plF
  split
  · omega
  · exact hf i
theorem mask_place {s : Bool} {f : Nat → Nat} (hf : ∀ i, f i < 256) (h : rightB s f = true) (i : Nat) (hi : i < 16) : maskF (bitsOf s) f i = plF s f i := by
  unfold maskF plF topB bitsOf keptN
  cases s
  · have h' : ∀ j, 4 ≤ j → j < 16 → f j = 0 := by
      unfold rightB at h
      rw [Bool.false_or, decide_eq_true_eq] at h
      exact fun j h4 h16 => h ⟨j, h16⟩ h4
    simp only [Bool.false_eq_true, if_false, false_and]
    by_cases c : i < 4
    · rw [show (min (max ((32 : Int) - 8 * i) 0) 8).toNat = 8 by omega]
      omega
    · rw [h' i (by omega) hi]
      simp
  · simp only [if_true, true_and]
    have hfi := hf i
    by_cases c : i < 8
    · rw [show (min (max ((64 : Int) - 8 * i) 0) 8).toNat = 8 by omega, if_neg (by omega)]
      omega
    · rw [show (min (max ((64 : Int) - 8 * i) 0) 8).toNat = 0 by omega, if_pos (by omega)]
      rw [show 2 ^ (8 - 0) = 256 by rfl]
      omega
theorem place_pl {s : Bool} {f : Nat → Nat} (hf : ∀ i, f i < 256) (h : rightB s f = true) : placeO Try.prog 57 s f = some (klit Try.prog 57 s (plF s f) (bitsOf s)) := by
  unfold placeO
  rw [if_pos h, klit_congr (mask_place hf h)]
theorem bits_lo (s : Bool) : -9223372036854775808 ≤ bitsOf s := by unfold bitsOf; split <;> omega
theorem bits_hi (s : Bool) : bitsOf s ≤ 9223372036854775807 := by unfold bitsOf; split <;> omega
theorem place_key {s : Bool} {f : Nat → Nat} (hf : ∀ i, f i < 256) : ∀ k, placeO Try.prog 57 s f = some k → WideAt.IsKeyLit k := by
  intro k hk
  unfold placeO at hk
  split at hk
  · rw [← Option.some.inj hk]
    exact klit_key s _ (maskF_lt hf _) _ (bits_lo s) (bits_hi s)
  · cases hk
theorem mask_ok {s : Bool} {f : Nat → Nat} : maskE s f (bitsOf s) = if rightB s f then 0 else 40 := by
  unfold maskE
  cases h : rightB s f
  · rfl
  · simp only [Bool.true_eq_false, if_false, if_true]
    rw [if_neg]
    unfold bitsOf digitsI
    cases s <;> simp
end Lim
end Go.Proofs.Ytlccgplgbokgkaa
