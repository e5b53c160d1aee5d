/- Prefixes as cells, their '==', and what cidr's Mask, RightPrefix, Holds and Bit answer, as mathematics. -/
import Derived.Test.YtcpfchfhcfdcpaaAddr
namespace Go.Proofs.Ytcpfchfhcfdcpaa
namespace Adr
open Go.ChangeShapes Go.WideShapes Go.ChangeAt Go.RowKit
open Num Mem Words Chacha Aead Poly

/-- a prefix as cells -/
def prefL (s : Bool) (f : Nat → Nat) (z : Int) : List Value := addrL s f ++ [.int .i64 z]
theorem prefL_length (s : Bool) (f : Nat → Nat) (z : Int) : (prefL s f z).length = 18 := by simp [prefL, addrL_length]
theorem pref_size (s : Bool) (f : Nat → Nat) (z : Int) : (prefL s f z).toArray.size = 18 := by rw [List.size_toArray, prefL_length]
theorem pref_each (s : Bool) (f : Nat → Nat) (z : Int) : ∀ v ∈ prefL s f z, v.oneCell' = true := by
  intro v hv
  rcases List.mem_append.1 hv with h | h
  · exact addr_each _ _ v h
  · rw [List.mem_singleton.1 h]; rfl
theorem pref_one (s : Bool) (f : Nat → Nat) (z : Int) : (prefL s f z).toArray.all (·.oneCell') = true := by
  rw [List.all_toArray, List.all_eq_true]
  exact pref_each _ _ _
theorem pref_congr {s : Bool} {f g : Nat → Nat} {z : Int} (h : ∀ i, i < 16 → f i = g i) : prefL s f z = prefL s g z := by
  unfold prefL
  rw [addr_congr h]
theorem pref_six (s : Bool) (f : Nat → Nat) (z : Int) : (prefL s f z)[0]? = some (.bool s) := rfl
theorem pref_byte (s : Bool) (f : Nat → Nat) (z : Int) (i : Nat) (hi : i < 16) : (prefL s f z)[1 + i]? = some (.int .u8 (f i : Nat)) := by
  unfold prefL
  rw [List.getElem?_append_left (by rw [addrL_length]; omega)]
  unfold addrL
  rw [Nat.add_comm 1 i, List.getElem?_cons_succ, byteCells_get _ _ _ hi]
theorem pref_bits (s : Bool) (f : Nat → Nat) (z : Int) : (prefL s f z)[17]? = some (.int .i64 z) := by
  unfold prefL
  rw [List.getElem?_append_right (by rw [addrL_length]; omega), addrL_length]
  rfl
theorem pref_set (s : Bool) (f : Nat → Nat) (z : Int) (j v : Nat) (hj : j < 16) : (prefL s f z).toArray.setIfInBounds (1 + j) (.int .u8 (v : Nat)) = (prefL s (fun i => if i = j then v else f i) z).toArray := by
  have e := byteCells_set f 16 j v
  rw [List.setIfInBounds_toArray] at e ⊢
  congr 1
  have e' : (byteCells f 16).set j (.int .u8 (v : Nat)) = byteCells (fun i => if i = j then v else f i) 16 := by simpa using e
  unfold prefL addrL
  rw [List.cons_append, Nat.add_comm 1 j, List.set_cons_succ, List.set_append_left _ _ (by rw [byteCells_length]; exact hj), e', List.cons_append]

theorem zero_pref (w : World) : (zeroValue 29).run Try.prog w = .ok (.agg (prefL false nought 0).toArray) w := by kernel_rfl
theorem pref_built0 : Try.prog.built 29 [] = some (prefL false nought 0).toArray := by kernel_rfl
theorem pref_built2 (s : Bool) (f : Nat → Nat) (z : Int) : Try.prog.built 29 [(0, .agg (addrL s f).toArray), (1, .int .i64 z)] = some (prefL s f z).toArray := by kernel_rfl
theorem size18 (w : World) : (sizeOf 29).run Try.prog w = .ok 18 w := by kernel_rfl
theorem part_addr (s : Bool) (f : Nat → Nat) (z : Int) (w : World) : (part 27 (prefL s f z).toArray 0).run Try.prog w = .ok (.agg (addrL s f).toArray) w := by
  simp only [part, isAgg, run_underlying Try.underlying27, Sem.run_bind, Result.andThen_ok, Sem.run_pure, if_true, size17]
  congr 2
theorem part_bits (s : Bool) (f : Nat → Nat) (z : Int) (w : World) : (part 3 (prefL s f z).toArray 17).run Try.prog w = .ok (.int .i64 z) w := by
  have e : (prefL s f z).toArray[17]? = some (.int .i64 z) := by rw [List.getElem?_toArray]; exact pref_bits s f z
  simp only [part, isAgg, run_underlying Try.underlying3, Sem.run_bind, Result.andThen_ok, Sem.run_pure, e]
  rfl
theorem eqin_pref (d : Nat) (s t : Bool) (f g : Nat → Nat) (z y : Int) (hf : ∀ i, f i < 256) (hg : ∀ i, g i < 256) (r : Bool)
    (hr : r = true ↔ (s = t ∧ ∀ i, i < 16 → f i = g i) ∧ z = y) (w : World) :
    (Op.equalIn (d + 4) 29 (.agg (prefL s f z).toArray) (.agg (prefL t g y).toArray)).run Try.prog w = .ok r w := by
  rw [run_equalIn_struct w (d + 3) 29 _ _ (by simp only [Program.fieldsOf, Try.underlying29]) (by kernel_rfl)]
  have e : (Try.prog.fieldsOf 29).toList = [{ name := "Addr", type := 27, offset := 0, embedded := false, tag := "", pkgPath := "", byteOffset := 0 }, { name := "Bits", type := 3, offset := 17, embedded := false, tag := "", pkgPath := "", byteOffset := 24 }] := by
    simp only [Program.fieldsOf, Try.underlying29]
  rw [e]
  have x1 : ∀ w, (Op.equalIn (d + 3) 27 (.agg (addrL s f).toArray) (.agg (addrL t g).toArray)).run Try.prog w = .ok (decide (s = t ∧ ∀ i : Fin 16, f i = g i)) w := fun w =>
    eqin_addr d s t f g hf hg _ (by rw [decide_eq_true_eq]; exact ⟨fun h => ⟨h.1, fun i hi => h.2 ⟨i, hi⟩⟩, fun h => ⟨h.1, fun i => h.2 i.1 i.2⟩⟩) w
  have hr' : r = (decide (s = t ∧ ∀ i : Fin 16, f i = g i) && (z == y)) := by
    rw [Bool.eq_iff_iff, hr]
    simp only [Bool.and_eq_true, decide_eq_true_eq, beq_iff_eq]
    exact ⟨fun h => ⟨⟨h.1.1, fun i => h.1.2 i.1 i.2⟩, h.2⟩, fun h => ⟨⟨h.1.1, fun i hi => h.1.2 ⟨i, hi⟩⟩, h.2⟩⟩
  simp only [Op.eqFields]
  rw [if_pos (by decide)]
  simp only [Sem.run_bind, part_addr, Result.andThen_ok, x1]
  cases c : decide (s = t ∧ ∀ i : Fin 16, f i = g i)
  · rw [c] at hr'
    subst hr'
    simp
  · rw [c] at hr'
    rw [Bool.true_and] at hr'
    subst hr'
    simp only [Bool.not_true, Bool.false_eq_true, if_false, ne_eq, String.reduceEq, not_false_eq_true, if_true, Sem.run_bind, part_bits, Result.andThen_ok, run_equalIn_int w (d + 2) 3 .i64 .i64 z y Try.underlying3]
    cases z == y <;> simp

/-- how many digits of byte i count -/
def keptN (z : Int) (i : Nat) : Nat := (min (max (z - 8 * i) 0) 8).toNat
theorem keptN_le (z : Int) (i : Nat) : keptN z i ≤ 8 := by unfold keptN; omega
/-- the first k digits of a byte -/
def topB (k x : Nat) : Nat := x / 2 ^ (8 - k) * 2 ^ (8 - k)
theorem topB_le (k x : Nat) : topB k x ≤ x := Nat.div_mul_le_self _ _
theorem topB_and : ∀ k, k < 9 → ∀ x, x < 256 → x &&& (255 * 2 ^ (8 - k) % 256) = topB k x := by decide +kernel
def maskF (z : Int) (f : Nat → Nat) (i : Nat) : Nat := topB (keptN z i) (f i)
theorem maskF_lt {f : Nat → Nat} (hf : ∀ i, f i < 256) (z : Int) (i : Nat) : maskF z f i < 256 := Nat.lt_of_le_of_lt (topB_le _ _) (hf i)
def digitsI (s : Bool) : Int := if s then 128 else 32
def maskE (s : Bool) (f : Nat → Nat) (z : Int) : Nat := if rightB s f = false then 40 else if z < 0 ∨ digitsI s < z then 41 else 0
def mS (s : Bool) (f : Nat → Nat) (z : Int) : Bool := if maskE s f z = 0 then s else false
def mF (s : Bool) (f : Nat → Nat) (z : Int) : Nat → Nat := if maskE s f z = 0 then maskF z f else nought
def mZ (s : Bool) (f : Nat → Nat) (z : Int) : Int := if maskE s f z = 0 then z else 0
/-- what Mask answers -/
def maskV (s : Bool) (f : Nat → Nat) (z : Int) : Value := .agg (prefL (mS s f z) (mF s f z) (mZ s f z)).toArray
theorem mF_lt {f : Nat → Nat} (hf : ∀ i, f i < 256) (s : Bool) (z : Int) (i : Nat) : mF s f z i < 256 := by
  unfold mF
  split
  · exact maskF_lt hf z i
  · show 0 < 256; omega
/-- a prefix may be -/
def rightPB (s : Bool) (f : Nat → Nat) (z : Int) : Bool := decide (maskE s f z = 0) && decide (∀ i : Fin 16, maskF z f i = f i)
theorem rightPB_iff {s : Bool} {f : Nat → Nat} {z : Int} : rightPB s f z = true ↔ maskE s f z = 0 ∧ ∀ i, i < 16 → maskF z f i = f i := by
  unfold rightPB
  rw [Bool.and_eq_true, decide_eq_true_eq, decide_eq_true_eq]
  exact ⟨fun h => ⟨h.1, fun i hi => h.2 ⟨i, hi⟩⟩, fun h => ⟨h.1, fun i => h.2 i.1 i.2⟩⟩
/-- an address lies in a prefix -/
def holdsPB (s : Bool) (f : Nat → Nat) (z : Int) (s' : Bool) (f' : Nat → Nat) : Bool := rightPB s f z && (decide (maskE s' f' z = 0) && (decide (s' = s) && decide (∀ i : Fin 16, maskF z f' i = f i)))
theorem holdsPB_iff {s : Bool} {f : Nat → Nat} {z : Int} {s' : Bool} {f' : Nat → Nat} : holdsPB s f z s' f' = true ↔ rightPB s f z = true ∧ maskE s' f' z = 0 ∧ s' = s ∧ ∀ i, i < 16 → maskF z f' i = f i := by
  unfold holdsPB
  rw [Bool.and_eq_true, Bool.and_eq_true, Bool.and_eq_true, decide_eq_true_eq, decide_eq_true_eq, decide_eq_true_eq]
  exact ⟨fun h => ⟨h.1, h.2.1, h.2.2.1, fun i hi => h.2.2.2 ⟨i, hi⟩⟩, fun h => ⟨h.1, h.2.1, h.2.2.1, fun i => h.2.2.2 i.1 i.2⟩⟩
/-- an address' digit -/
def bitI (s : Bool) (f : Nat → Nat) (n : Int) : Int := if rightB s f = false ∨ n < 0 ∨ digitsI s ≤ n then -1 else ((f (n.toNat / 8) / 2 ^ (7 - n.toNat % 8) % 2 : Nat) : Int)
end Adr
end Go.Proofs.Ytcpfchfhcfdcpaa
