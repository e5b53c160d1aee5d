/- What the older texts say of no program, and of package words: numbers, rows of bytes, blocks, regions, strings, arrays. -/
import Derived.Laws.BitsAllLaws
import Derived.Below
import Derived.Laws.OwnMore
import Derived.Laws.Rows
import Derived.Deep.Draws
import Derived.OwnWalk
import Derived.Test.YtdhjgenijieeaaaRows
import Derived.WalkKit
import Derived.ProofKit
import Derived.OpenShut
import Derived.BigQuiet
import Derived.Deep.QuietTactic
import Derived.Lib.Hide
import Derived.LoopN
import Derived.Laws.CopyOwn
import Derived.Outline
import Derived.Deep.RegionLaw
import Derived.Deep.MidRow
import Derived.Deep.Cut
import Derived.Laws.BytesArg
import Derived.Laws.BytesString
import Derived.Laws.AppendOwn
import Derived.Laws.AppendOwnNone
import Derived.Maps.AppendAt
import Derived.Deep.RegionHeld3
import Derived.Stop.BytesEq
import Derived.Lib.SlBytesConst
import Derived.WideShapes
import Derived.Lib.Strings
/-! from Num -/
namespace Go.Proofs.Ytdhjgenijieeaaa
namespace Num

/-- the number of k bytes from place p on, the least first -/
def le (f : Nat → Nat) (p : Nat) : Nat → Nat
  | 0 => 0
  | k + 1 => le f p k + f (p + k) * 2 ^ (8 * k)

/-- the number of k bytes from place p on, the greatest first -/
def be (f : Nat → Nat) (p : Nat) : Nat → Nat
  | 0 => 0
  | k + 1 => be f p k * 256 + f (p + k)

theorem pow8_succ (k : Nat) : 2 ^ (8 * (k + 1)) = 256 * 2 ^ (8 * k) := by
  rw [show 8 * (k + 1) = 8 * k + 8 from by omega, Nat.pow_add]
  omega

theorem le_lt {f : Nat → Nat} (hf : ∀ i, f i < 256) (p k : Nat) : le f p k < 2 ^ (8 * k) := by
  induction k with
  | zero => simp [le]
  | succ k ih =>
    rw [pow8_succ]
    unfold le
    have h := hf (p + k)
    have : f (p + k) * 2 ^ (8 * k) ≤ 255 * 2 ^ (8 * k) := Nat.mul_le_mul_right _ (by omega)
    omega

theorem be_lt {f : Nat → Nat} (hf : ∀ i, f i < 256) (p k : Nat) : be f p k < 2 ^ (8 * k) := by
  induction k with
  | zero => simp [be]
  | succ k ih =>
    rw [pow8_succ]
    unfold be
    have h := hf (p + k)
    omega

theorem pow8_le {k : Nat} (hk : k ≤ 7) : 2 ^ (8 * k) ≤ 2 ^ 56 := Nat.pow_le_pow_right (by omega) (by omega)

theorem le_congr {f g : Nat → Nat} {p q : Nat} (k : Nat) (h : ∀ i, i < k → f (p + i) = g (q + i)) : le f p k = le g q k := by
  induction k with
  | zero => rfl
  | succ k ih =>
    unfold le
    rw [ih (fun i hi => h i (by omega)), h k (by omega)]

theorem be_congr {f g : Nat → Nat} {p q : Nat} (k : Nat) (h : ∀ i, i < k → f (p + i) = g (q + i)) : be f p k = be g q k := by
  induction k with
  | zero => rfl
  | succ k ih =>
    unfold be
    rw [ih (fun i hi => h i (by omega)), h k (by omega)]

/-- the least first, one byte more at the front -/
theorem le_front (f : Nat → Nat) (p k : Nat) : le f p (k + 1) = 256 * le f (p + 1) k + f p := by
  induction k with
  | zero => simp [le]
  | succ k ih =>
    rw [show le f p (k + 1 + 1) = le f p (k + 1) + f (p + (k + 1)) * 2 ^ (8 * (k + 1)) from rfl, ih,
      show le f (p + 1) (k + 1) = le f (p + 1) k + f (p + 1 + k) * 2 ^ (8 * k) from rfl, pow8_succ, show p + 1 + k = p + (k + 1) from by omega]
    rw [Nat.mul_add, Nat.mul_left_comm]
    omega

/-- a number's bytes are its number again -/
theorem le_digits (v k : Nat) : le (fun i => v / 2 ^ (8 * i) % 256) 0 k = v % 2 ^ (8 * k) := by
  induction k with
  | zero => simp [le, Nat.mod_one]
  | succ k ih =>
    unfold le
    rw [ih, Nat.zero_add, pow8_succ, Nat.mul_comm 256, Nat.mod_mul, Nat.mul_comm (v / 2 ^ (8 * k) % 256)]

theorem be_step (f : Nat → Nat) (p k : Nat) : be f p (k + 1) = f p * 2 ^ (8 * k) + be f (p + 1) k := by
  induction k generalizing p with
  | zero => simp [be]
  | succ k ih =>
    rw [show be f p (k + 1 + 1) = be f p (k + 1) * 256 + f (p + (k + 1)) from rfl, ih p, show be f (p + 1) (k + 1) = be f (p + 1) k * 256 + f (p + 1 + k) from rfl,
      pow8_succ, show p + 1 + k = p + (k + 1) from by omega]
    rw [Nat.add_mul, Nat.mul_assoc, Nat.mul_comm 256]
    omega

/-- the greatest first is the least first of the turned row -/
theorem be_le (f : Nat → Nat) (p k : Nat) : be f p k = le (fun i => f (p + (k - 1 - i))) 0 k := by
  induction k generalizing p with
  | zero => rfl
  | succ k ih =>
    rw [be_step, ih (p + 1)]
    rw [show le (fun i => f (p + (k + 1 - 1 - i))) 0 (k + 1) = le (fun i => f (p + (k + 1 - 1 - i))) 0 k + f (p + (k + 1 - 1 - (0 + k))) * 2 ^ (8 * k) from rfl]
    rw [show p + (k + 1 - 1 - (0 + k)) = p from by omega]
    have := le_congr (f := fun i => f (p + 1 + (k - 1 - i))) (g := fun i => f (p + (k + 1 - 1 - i))) (p := 0) (q := 0) k (fun i hi => by
      show f _ = f _
      congr 1
      omega)
    rw [this]
    omega

/-! ### how the model's operations on unsigned numbers read -/
theorem wrap64_nat (a : Nat) : IntKind.u64.wrap (a : Int) = ((a % 18446744073709551616 : Nat) : Int) := by rw [IntKind.wrap_u64]; omega

theorem or_low (a b k : Nat) (hk : k ≤ 7) (ha : a < 2 ^ (8 * k)) (hb : b < 256) :
    bits .or .u64 (a : Int) (IntKind.u64.wrap (IntKind.u64.wrap (b : Int) * 2 ^ (8 * k))) = ((a + b * 2 ^ (8 * k) : Nat) : Int) := by
  have hp := pow8_le hk
  have hb64 : b * 2 ^ (8 * k) < 18446744073709551616 := by
    have : b * 2 ^ (8 * k) ≤ 255 * 2 ^ 56 := Nat.mul_le_mul (by omega) hp
    omega
  have e1 : IntKind.u64.wrap (b : Int) = (b : Int) := by rw [IntKind.wrap_u64]; omega
  have e2 : ((b : Int) * 2 ^ (8 * k)) = ((b * 2 ^ (8 * k) : Nat) : Int) := by rw [Int.natCast_mul, Int.natCast_pow]; rfl
  rw [e1, e2, wrap64_nat, Nat.mod_eq_of_lt hb64, u64_or_nat _ _ (by omega) hb64, Nat.or_comm,
    nat_join (8 * k) (b * 2 ^ (8 * k)) a (Nat.mul_mod_left _ _) ha, Nat.add_comm]

theorem or_high (a b k : Nat) (hk : k ≤ 7) (ha : a < 2 ^ (8 * k)) (hb : b < 256) :
    bits .or .u64 (IntKind.u64.wrap ((a : Int) * 256)) (IntKind.u64.wrap (b : Int)) = ((a * 256 + b : Nat) : Int) := by
  have hp := pow8_le hk
  have e1 : IntKind.u64.wrap (b : Int) = (b : Int) := by rw [IntKind.wrap_u64]; omega
  have e2 : ((a : Int) * 256) = ((a * 256 : Nat) : Int) := by rw [Int.natCast_mul]; rfl
  rw [e1, e2, wrap64_nat, Nat.mod_eq_of_lt (by omega), u64_or_nat _ _ (by omega) (by omega),
    nat_join 8 (a * 256) b (by omega) (by omega)]

/-! ### turned digits -/
/-- v's 32 digits moved up by u (at most 31), those that leave coming in at the other end -/
def rotl (v u : Nat) : Nat := (v * 2 ^ u % 2 ^ 32) ||| (v / 2 ^ (32 - u))

theorem rotl_bit (v u i : Nat) (hv : v < 2 ^ 32) (hu : u ≤ 31) : (rotl v u).testBit i = (decide (i < 32) && v.testBit ((i + 32 - u) % 32)) := by
  unfold rotl
  rw [Nat.testBit_or, Nat.testBit_mod_two_pow, Nat.testBit_mul_two_pow, Nat.testBit_div_two_pow]
  have hbig : ∀ j, 32 ≤ j → v.testBit j = false := fun j hj => Nat.testBit_lt_two_pow (Nat.lt_of_lt_of_le hv (Nat.pow_le_pow_right (by omega) hj))
  by_cases hi : i < 32
  · by_cases hui : u ≤ i
    · rw [hbig (i + (32 - u)) (by omega), show (i + 32 - u) % 32 = i - u from by omega]
      simp [hi, hui]
    · rw [show (i + 32 - u) % 32 = i + (32 - u) from by omega]
      simp [hi, hui]
  · rw [hbig (i + (32 - u)) (by omega)]
    simp [hi]

theorem rotl_lt (v u : Nat) (hv : v < 2 ^ 32) (hu : u ≤ 31) : rotl v u < 2 ^ 32 := by
  refine Nat.lt_pow_two_of_testBit _ fun i hi => ?_
  rw [rotl_bit v u i hv hu]
  simp
  omega

theorem rotl_rotl (v a b c : Nat) (hv : v < 2 ^ 32) (ha : a ≤ 31) (hb : b ≤ 31) (hc : c = (a + b) % 32) : rotl (rotl v a) b = rotl v c := by
  refine Nat.eq_of_testBit_eq fun i => ?_
  rw [rotl_bit _ _ _ (rotl_lt v a hv ha) hb, rotl_bit _ _ _ hv ha, rotl_bit _ _ _ hv (by omega)]
  by_cases hi : i < 32
  · have h1 : (i + 32 - b) % 32 < 32 := by omega
    simp only [hi, h1, decide_true, Bool.true_and]
    congr 1
    omega
  · simp [hi]

theorem rotl_zero (v : Nat) (hv : v < 2 ^ 32) : rotl v 0 = v := by
  unfold rotl
  rw [Nat.pow_zero, Nat.mul_one, Nat.mod_eq_of_lt hv, Nat.div_eq_of_lt hv]
  exact Nat.or_zero v

/-- turned up by one: doubled, and the greatest digit comes in at the other end -/
theorem rotl_one (v : Nat) (hv : v < 2 ^ 32) : rotl v 1 = v * 2 % 2 ^ 32 + v / 2 ^ 31 := by
  unfold rotl
  rw [nat_join 1 _ _ (by omega) (by omega), Nat.pow_one]

theorem and31 (n : Int) : bits .and .i64 n 31 = n % 32 := by
  have h : (BitVec.ofInt 64 n &&& BitVec.ofInt 64 31).toNat = (n % 32).toNat := by
    rw [BitVec.toNat_and, show (BitVec.ofInt 64 31).toNat = 2 ^ 5 - 1 from rfl, Nat.and_two_pow_sub_one_eq_mod]
    rw [BitVec.toNat_ofInt]
    omega
  show IntKind.i64.wrap ((BitVec.ofInt 64 n &&& BitVec.ofInt 64 31).toNat : Int) = _
  rw [h]
  simp [IntKind.wrap, IntKind.bits, IntKind.signed]
  omega

theorem or_rot (v u : Nat) (hv : v < 2 ^ 32) :
    bits .or .u32 ((v : Int) * 2 ^ u % 4294967296) ((v : Int) / 2 ^ (32 - u)) = ((rotl v u : Nat) : Int) := by
  have e1 : ((v : Int) * 2 ^ u % 4294967296) = ((v * 2 ^ u % 4294967296 : Nat) : Int) := by rw [Int.natCast_emod, Int.natCast_mul, Int.natCast_pow]; rfl
  have e2 : ((v : Int) / 2 ^ (32 - u)) = ((v / 2 ^ (32 - u) : Nat) : Int) := by rw [Int.natCast_ediv, Int.natCast_pow]; rfl
  rw [e1, e2, u32_or_nat _ _ (by omega) (Nat.lt_of_le_of_lt (Nat.div_le_self _ _) (by omega))]
  rfl

end Num
end Go.Proofs.Ytdhjgenijieeaaa

/-! from Mem -/
namespace Go.Proofs.Ytdhjgenijieeaaa
namespace Mem
open Go.RowKit

/-- block g of w is just the cells cs of element type t, none frozen -/
def Whole (w : World) (g : Nat) (t : TypeId) (cs : Array Value) : Prop := w.heap[g]? = some (.cells cs t (0, 0))

section
variable {w w' : World} {g : Nat} {t : TypeId} {cs : Array Value}
theorem Whole.lt (h : Whole w g t cs) : g < w.heap.size := by
  unfold Whole at h
  rcases Nat.lt_or_ge g w.heap.size with k | k
  · exact k
  · rw [Array.getElem?_eq_none k] at h
    cases h
theorem Whole.cell (h : Whole w g t cs) (i : Nat) : w.cell? ⟨g, i, none⟩ = cs[i]? := cell_of_row w g i cs t (0, 0) h
theorem Whole.free (h : Whole w g t cs) (i : Nat) : w.frozen? ⟨g, i, none⟩ = false := by
  unfold Whole at h
  simp [World.frozen?, h]
theorem Whole.new (w : World) (t : TypeId) (cs : Array Value) : Whole (w.alloc (.cells cs t)) w.heap.size t cs := heap_alloc_new w _
theorem Whole.alloc (h : Whole w g t cs) (o : Obj) : Whole (w.alloc o) g t cs := (Below.heap_alloc w o g h.lt).trans h
theorem Whole.drewN (h : Whole w g t cs) (n : Nat) : Whole (w.drewN n) g t cs := h
theorem Whole.drew (h : Whole w g t cs) : Whole w.drew g t cs := h
theorem Whole.put (h : Whole w g t cs) (i : Nat) (u : Value) : Whole (w.setCell ⟨g, i, none⟩ u) g t (cs.setIfInBounds i u) := by
  unfold Whole at h ⊢
  simp [World.setCell, Array.getElem?_modify, h]
theorem Whole.far (h : Whole w g t cs) {p : Addr} (hp : g ≠ p.block) (u : Value) : Whole (w.setCell p u) g t cs := (Below.heap_setCell w p u g hp).trans h
theorem Whole.below {B : Nat} (h : Whole w g t cs) (hb : Below B w w') (hg : g < B) : Whole w' g t cs := (hb.block g hg).trans h
end

theorem below_drewN {B : Nat} {a w : World} (h : Below B a w) (n : Nat) : Below B a (w.drewN n) := ⟨h.os, h.tape, h.output, h.size, h.block⟩

theorem below_trans {w w1 w2 : World} (h : Below w.heap.size w w1) (k : Below w1.heap.size w1 w2) : Below w.heap.size w w2 := h.trans (k.mono h.size)
theorem below_alloc {w w1 : World} (h : Below w.heap.size w w1) (o : Obj) : Below w.heap.size w (w1.alloc o) := h.alloc h.size o
theorem below_new {w w1 w2 : World} {o : Obj} (h : Below w.heap.size w w1) (k : Below (w1.alloc o).heap.size (w1.alloc o) w2) : Below w.heap.size w w2 := below_trans (below_alloc h o) k

/-- what is told of a slice of integers that came in: it is nil; or it leads to a row of 'cap' cells, the numbers 'zs', each fitting its kind -/
def IsRow (k : IntKind) (w : World) (a : Option Addr) (len cap : Nat) (zs : List Int) : Prop :=
  (a = none ∧ len = 0 ∧ cap = 0 ∧ zs = []) ∨
  ∃ x, a = some x ∧ len ≤ cap ∧ cap ≤ maxLen ∧ zs.length = cap ∧ (∀ i, i < zs.length → w.cell? (x.add i) = some (.int k (zs.getD i 0))) ∧ ∀ n ∈ zs, (Lit.int k n).wf = true

theorem nat_u8 {a : Int} (h : (Lit.int .u8 a).wf = true) : ∃ v : Nat, a = (v : Int) ∧ v < 2 ^ 8 := by
  simp [Lit.wf, IntKind.min, IntKind.max, IntKind.signed, IntKind.bits] at h
  exact ⟨a.toNat, by omega, by omega⟩
theorem nat_u32 {a : Int} (h : (Lit.int .u32 a).wf = true) : ∃ v : Nat, a = (v : Int) ∧ v < 2 ^ 32 := by
  simp [Lit.wf, IntKind.min, IntKind.max, IntKind.signed, IntKind.bits] at h
  exact ⟨a.toNat, by omega, by omega⟩
theorem nat_u64 {a : Int} (h : (Lit.int .u64 a).wf = true) : ∃ v : Nat, a = (v : Int) ∧ v < 2 ^ 64 := by
  simp [Lit.wf, IntKind.min, IntKind.max, IntKind.signed, IntKind.bits] at h
  exact ⟨a.toNat, by omega, by omega⟩
theorem int_i64 {a : Int} (h : (Lit.int .i64 a).wf = true) : -9223372036854775808 ≤ a ∧ a ≤ 9223372036854775807 := by
  simp [Lit.wf, IntKind.min, IntKind.max, IntKind.signed, IntKind.bits] at h
  omega

/-- the cells of a row of bytes -/
def byteCells (f : Nat → Nat) (n : Nat) : List Value := (List.range n).map fun i => .int .u8 (f i : Nat)

theorem byteCells_lit4 (f : Nat → Nat) : (byteCells f 4).toArray = #[.int .u8 (f 0 : Nat), .int .u8 (f 1 : Nat), .int .u8 (f 2 : Nat), .int .u8 (f 3 : Nat)] := rfl
theorem byteCells_lit8 (f : Nat → Nat) : (byteCells f 8).toArray = #[.int .u8 (f 0 : Nat), .int .u8 (f 1 : Nat), .int .u8 (f 2 : Nat), .int .u8 (f 3 : Nat), .int .u8 (f 4 : Nat), .int .u8 (f 5 : Nat), .int .u8 (f 6 : Nat), .int .u8 (f 7 : Nat)] := rfl
theorem byteCells_lit12 (f : Nat → Nat) : (byteCells f 12).toArray = #[.int .u8 (f 0 : Nat), .int .u8 (f 1 : Nat), .int .u8 (f 2 : Nat), .int .u8 (f 3 : Nat), .int .u8 (f 4 : Nat), .int .u8 (f 5 : Nat), .int .u8 (f 6 : Nat), .int .u8 (f 7 : Nat), .int .u8 (f 8 : Nat), .int .u8 (f 9 : Nat), .int .u8 (f 10 : Nat), .int .u8 (f 11 : Nat)] := rfl
theorem byteCells_lit16 (f : Nat → Nat) : (byteCells f 16).toArray = #[.int .u8 (f 0 : Nat), .int .u8 (f 1 : Nat), .int .u8 (f 2 : Nat), .int .u8 (f 3 : Nat), .int .u8 (f 4 : Nat), .int .u8 (f 5 : Nat), .int .u8 (f 6 : Nat), .int .u8 (f 7 : Nat), .int .u8 (f 8 : Nat), .int .u8 (f 9 : Nat), .int .u8 (f 10 : Nat), .int .u8 (f 11 : Nat), .int .u8 (f 12 : Nat), .int .u8 (f 13 : Nat), .int .u8 (f 14 : Nat), .int .u8 (f 15 : Nat)] := rfl
theorem byteCells_lit32 (f : Nat → Nat) : (byteCells f 32).toArray = #[.int .u8 (f 0 : Nat), .int .u8 (f 1 : Nat), .int .u8 (f 2 : Nat), .int .u8 (f 3 : Nat), .int .u8 (f 4 : Nat), .int .u8 (f 5 : Nat), .int .u8 (f 6 : Nat), .int .u8 (f 7 : Nat), .int .u8 (f 8 : Nat), .int .u8 (f 9 : Nat), .int .u8 (f 10 : Nat), .int .u8 (f 11 : Nat), .int .u8 (f 12 : Nat), .int .u8 (f 13 : Nat), .int .u8 (f 14 : Nat), .int .u8 (f 15 : Nat), .int .u8 (f 16 : Nat), .int .u8 (f 17 : Nat), .int .u8 (f 18 : Nat), .int .u8 (f 19 : Nat), .int .u8 (f 20 : Nat), .int .u8 (f 21 : Nat), .int .u8 (f 22 : Nat), .int .u8 (f 23 : Nat), .int .u8 (f 24 : Nat), .int .u8 (f 25 : Nat), .int .u8 (f 26 : Nat), .int .u8 (f 27 : Nat), .int .u8 (f 28 : Nat), .int .u8 (f 29 : Nat), .int .u8 (f 30 : Nat), .int .u8 (f 31 : Nat)] := rfl
theorem byteCells_lit64 (f : Nat → Nat) : (byteCells f 64).toArray = #[.int .u8 (f 0 : Nat), .int .u8 (f 1 : Nat), .int .u8 (f 2 : Nat), .int .u8 (f 3 : Nat), .int .u8 (f 4 : Nat), .int .u8 (f 5 : Nat), .int .u8 (f 6 : Nat), .int .u8 (f 7 : Nat), .int .u8 (f 8 : Nat), .int .u8 (f 9 : Nat), .int .u8 (f 10 : Nat), .int .u8 (f 11 : Nat), .int .u8 (f 12 : Nat), .int .u8 (f 13 : Nat), .int .u8 (f 14 : Nat), .int .u8 (f 15 : Nat), .int .u8 (f 16 : Nat), .int .u8 (f 17 : Nat), .int .u8 (f 18 : Nat), .int .u8 (f 19 : Nat), .int .u8 (f 20 : Nat), .int .u8 (f 21 : Nat), .int .u8 (f 22 : Nat), .int .u8 (f 23 : Nat), .int .u8 (f 24 : Nat), .int .u8 (f 25 : Nat), .int .u8 (f 26 : Nat), .int .u8 (f 27 : Nat), .int .u8 (f 28 : Nat), .int .u8 (f 29 : Nat), .int .u8 (f 30 : Nat), .int .u8 (f 31 : Nat), .int .u8 (f 32 : Nat), .int .u8 (f 33 : Nat), .int .u8 (f 34 : Nat), .int .u8 (f 35 : Nat), .int .u8 (f 36 : Nat), .int .u8 (f 37 : Nat), .int .u8 (f 38 : Nat), .int .u8 (f 39 : Nat), .int .u8 (f 40 : Nat), .int .u8 (f 41 : Nat), .int .u8 (f 42 : Nat), .int .u8 (f 43 : Nat), .int .u8 (f 44 : Nat), .int .u8 (f 45 : Nat), .int .u8 (f 46 : Nat), .int .u8 (f 47 : Nat), .int .u8 (f 48 : Nat), .int .u8 (f 49 : Nat), .int .u8 (f 50 : Nat), .int .u8 (f 51 : Nat), .int .u8 (f 52 : Nat), .int .u8 (f 53 : Nat), .int .u8 (f 54 : Nat), .int .u8 (f 55 : Nat), .int .u8 (f 56 : Nat), .int .u8 (f 57 : Nat), .int .u8 (f 58 : Nat), .int .u8 (f 59 : Nat), .int .u8 (f 60 : Nat), .int .u8 (f 61 : Nat), .int .u8 (f 62 : Nat), .int .u8 (f 63 : Nat)] := rfl

theorem byteCells_get (f : Nat → Nat) (n i : Nat) (h : i < n) : (byteCells f n)[i]? = some (.int .u8 (f i : Nat)) := by
  simp [byteCells, h]

theorem byteCells_length (f : Nat → Nat) (n : Nat) : (byteCells f n).length = n := by simp [byteCells]

theorem byteCells_congr {f g : Nat → Nat} {n : Nat} (h : ∀ i, i < n → f i = g i) : byteCells f n = byteCells g n := by
  unfold byteCells
  exact List.map_congr_left fun i hi => by rw [h i (List.mem_range.1 hi)]

theorem Whole.bytes {w : World} {g n : Nat} {t : TypeId} {f : Nat → Nat} (h : Whole w g t (byteCells f n).toArray) (i : Nat) (hi : i < n) : w.cell? ⟨g, 0 + i, none⟩ = some (.int .u8 (f i : Nat)) := by
  rw [Nat.zero_add, h.cell, List.getElem?_toArray, byteCells_get f n i hi]

/-- a store into a row of bytes -/
theorem byteCells_set (f : Nat → Nat) (n j v : Nat) : (byteCells f n).toArray.setIfInBounds j (.int .u8 (v : Nat)) = (byteCells (fun i => if i = j then v else f i) n).toArray := by
  apply Array.ext_getElem?
  intro i
  rw [Array.getElem?_setIfInBounds]
  by_cases hi : i < n
  · by_cases hj : j = i
    · subst hj
      simp [byteCells, hi]
    · have : ¬ i = j := fun e => hj e.symm
      simp [byteCells, hi, hj, this]
  · simp [byteCells, hi]
    omega

end Mem
end Go.Proofs.Ytdhjgenijieeaaa

/-! from Words -/
namespace Go.Proofs.Ytdhjgenijieeaaa
namespace Words
open Go.ChangeShapes Go.WideShapes Go.ChangeAt Go.RowKit
open Num

/-- what is wrong with reading size bytes from p on, out of n -/
def lackI (n : Nat) (p size : Int) : Int := if p < 0 then 1 else if p ≤ n - size then 0 else 10
theorem lackI_neg {n : Nat} {p size : Int} (h : p < 0) : lackI n p size = 1 := by unfold lackI; rw [if_pos h]
theorem lackI_ok {n : Nat} {p size : Int} (h : 0 ≤ p) (h' : p ≤ n - size) : lackI n p size = 0 := by unfold lackI; rw [if_neg (by omega), if_pos h']
theorem lackI_far {n : Nat} {p size : Int} (h : 0 ≤ p) (h' : (n : Int) - size < p) : lackI n p size = 10 := by unfold lackI; rw [if_neg (by omega), if_neg (by omega)]

set_option maxRecDepth 100000 in
theorem lacks_any (A : Option Addr) (n c : Nat) (p size : Int) (h0 : 1 ≤ size) (h1 : size ≤ 8) (hn : n ≤ 9223372036854775807) (w : World) :
    Calls Try.prog 65 #[.slice A n c, .int .i64 p, .int .i64 size] w fun e w' => e = .returned (.int .i64 (lackI n p size)) ∧ w = w' := by
  by_cases hp : p < 0
  · go_enter Try.func65, Try.ntmps65
    go_wp2
    go_ret
    exact ⟨by rw [lackI_neg hp]; rfl, rfl⟩
  · have hp' : 0 ≤ p := by omega
    clear hp
    by_cases hq : p ≤ n - size
    · go_enter Try.func65, Try.ntmps65
      go_wp2
      go_ret
      exact ⟨by rw [lackI_ok hp' hq]; rfl, rfl⟩
    · have hq' : (n : Int) - size < p := by omega
      clear hq
      go_enter Try.func65, Try.ntmps65
      go_wp2
      go_ret
      exact ⟨by rw [lackI_far hp' hq']; rfl, rfl⟩

/-- likewise, where it is known that something is -/
def wrongI (p : Int) : Int := if p < 0 then 1 else 10

end Words
end Go.Proofs.Ytdhjgenijieeaaa

/-! from WordsTwo -/
namespace Go.Proofs.Ytdhjgenijieeaaa
namespace Words
open Go.ChangeShapes Go.WideShapes Go.ChangeAt Go.RowKit
open Num Mem

/-- byte i of a number, the least first -/
def byteAt (v i : Nat) : Nat := v / 2 ^ (8 * i) % 256
theorem byteAt_lt (v i : Nat) : byteAt v i < 256 := Nat.mod_lt _ (by omega)
theorem byteAt_int (v i : Nat) : ((v : Int) / 2 ^ (8 * i) % 256) = ((byteAt v i : Nat) : Int) := by
  unfold byteAt
  rw [Int.natCast_emod, Int.natCast_ediv, Int.natCast_pow]
  rfl

theorem le_byteAt (v k : Nat) (h : v < 2 ^ (8 * k)) : le (byteAt v) 0 k = v := by
  have := le_digits v k
  rw [Nat.mod_eq_of_lt h] at this
  exact this
/-- the greatest first, likewise -/
theorem be_byteAt (v k : Nat) (h : v < 2 ^ (8 * k)) : be (fun i => byteAt v (k - 1 - i)) 0 k = v := by
  rw [be_le, ← le_byteAt v k h]
  refine le_congr k fun i hi => ?_
  show byteAt _ _ = byteAt _ _
  rw [le_byteAt v k h]
  congr 1
  omega

theorem bytes4 (v : Nat) (hv : v < 4294967296) : (#[.int .u8 ((v : Int) % 256), .int .u8 ((v : Int) / 256 % 256), .int .u8 ((v : Int) / 65536 % 256), .int .u8 ((v : Int) / 16777216)] : Array Value) = (byteCells (byteAt v) 4).toArray := by
  have e3 : byteAt v 3 = v / 16777216 := by
    show v / 2 ^ 24 % 256 = _
    omega
  show _ = (#[.int .u8 ((byteAt v 0 : Nat) : Int), .int .u8 ((byteAt v 1 : Nat) : Int), .int .u8 ((byteAt v 2 : Nat) : Int), .int .u8 ((byteAt v 3 : Nat) : Int)] : Array Value)
  rw [e3]
  simp [byteAt]

theorem bytes8 (v : Nat) (hv : v < 18446744073709551616) : (#[.int .u8 ((v : Int) % 256), .int .u8 ((v : Int) / 256 % 256), .int .u8 ((v : Int) / 65536 % 256), .int .u8 ((v : Int) / 16777216 % 256),
      .int .u8 ((v : Int) / 4294967296 % 256), .int .u8 ((v : Int) / 1099511627776 % 256), .int .u8 ((v : Int) / 281474976710656 % 256), .int .u8 ((v : Int) / 72057594037927936)] : Array Value) = (byteCells (byteAt v) 8).toArray := by
  have e7 : byteAt v 7 = v / 72057594037927936 := by
    show v / 2 ^ 56 % 256 = _
    omega
  show _ = (#[.int .u8 ((byteAt v 0 : Nat) : Int), .int .u8 ((byteAt v 1 : Nat) : Int), .int .u8 ((byteAt v 2 : Nat) : Int), .int .u8 ((byteAt v 3 : Nat) : Int),
    .int .u8 ((byteAt v 4 : Nat) : Int), .int .u8 ((byteAt v 5 : Nat) : Int), .int .u8 ((byteAt v 6 : Nat) : Int), .int .u8 ((byteAt v 7 : Nat) : Int)] : Array Value)
  rw [e7]
  simp [byteAt]

/-- what a row of n bytes is made as -/
theorem made_bytes (n : Nat) (hn : n ≤ 140737488355328) (w : World) :
    (Instr.makeSlice 38 (.int .i64 n) (.int .i64 n)).run Try.prog w = .ok (.slice (some ⟨w.heap.size, 0, none⟩) n n) (w.alloc (.cells (byteCells (fun _ => 0) n).toArray 5)) := by
  obtain ⟨i0, hi, hz0, hz1, hz2⟩ := info_parts (show (Try.prog.info? 5).map (fun i => (i.zero, i.size, i.bytes)) = some (some (.int .u8 0), 1, 1) by kernel_rfl)
  rw [run_make w 38 5 i0 (.int .u8 0) Try.underlying38 hi hz0 .i64 .i64 n n (by omega) (by omega) (by rw [hz2]; omega) (by omega)]
  have e : madeCells (Value.int .u8 0).cells (((n : Int)).toNat * i0.size) = (byteCells (fun _ => 0) n).toArray := by
    rw [hz1]
    apply Array.ext_getElem?
    intro i
    by_cases hi : i < n <;> simp [madeCells, Value.cells, byteCells, hi, Nat.mod_one]
  rw [e]
  rfl

end Words
end Go.Proofs.Ytdhjgenijieeaaa

/-! from Copy -/
namespace Go.Proofs.Ytdhjgenijieeaaa
namespace Mem
open Go.RowKit

theorem grown_setRow (w : World) (g : Nat) (cs : Array Value) : w.grownBy (w.setRow g cs) (some g) :=
  ⟨rfl, rfl, rfl, by simp [World.setRow], fun k _ hk => setRow_other w g k cs (fun e => hk (by rw [e]))⟩

theorem step_copy_grown {P : Program} {ops : Array Oper} {o : Oper} {a : Act} {w : World} {K : Act → World → Prop} {Q : Exit → Act → World → Prop} {E : Prop} (hgd : o.guard = none) (d s : Operand) (dT sT : TypeId)
    (ho : o.op = .call { callee := .builtin .copy, args := #[d, s], argTypes := #[dT, sT] }) (elem : TypeId) (hu : P.underlying dT = some (.slice elem)) (hsz : (P.info? elem).map (·.size) = some 1)
    (g off dLen dCap : Nat) (ad : Addr) (sLen sCap : Nat) (hd : a.eval d = .slice (some ⟨g, off, none⟩) dLen dCap) (hs : a.eval s = .slice (some ad) sLen sCap)
    (cur : List Value) (t : TypeId) (hg : w.heap[g]? = some (.cells cur.toArray t (0, 0))) (cs : List Value) (hn : cs.length = Nat.min sLen dLen)
    (hsrc : ∀ j v, cs[j]? = some v → w.cell? (ad.add j) = some v)
    (hfit : off + cs.length ≤ cur.length) (h1 : ∀ v ∈ cs, v.oneCell' = true)
    (h : ∀ w', Hid (w'.heap[g]? = some (.cells (splice cur off cs).toArray t (0, 0))) → w.grownBy w' (some g) → K (a.put o.dst (goInt cs.length)) w') :
    if Region.wanted o (yielded ops a.tmps) = true then Oper.wp P o a w K Q else E := by
  have hw : Region.wanted o (yielded ops a.tmps) = true := by simp [Region.wanted, hgd]
  rw [if_pos hw]
  have hrun := run_copy_row (P := P) w dT sT o.type elem g off dLen dCap ad sLen sCap cur.toArray t cs hu hsz hg hn hsrc (by simpa using hfit) h1
  unfold Oper.wp
  simp [execOp, ho, resolve, invoke, builtin, hd, hs, hrun, Result.andThen]
  exact h _ (show _ = _ by simpa [splice] using setRow_heap w g _ _ t _ hg) (grown_setRow w g _)

end Mem
end Go.Proofs.Ytdhjgenijieeaaa

/-! from First -/
namespace Go.Proofs.Ytdhjgenijieeaaa
namespace Chacha
open Go.ChangeShapes Go.WideShapes Go.ChangeAt Go.RowKit
open Num Mem Words

theorem cut_world {P : Program} {c : Code} {Q : Exit → Act → World → Prop} {a : Act} {w : World} (R : World → Prop) (hR : R w) (h : ∀ w', R w' → Code.wp P c Q a w') : Code.wp P c Q a w := h w hR

theorem whole_grown {W w : World} {g h : Nat} {t : TypeId} {cs : Array Value} (H : Whole W h t cs) (hg : W.grownBy w (some g)) (hne : g ≠ h) : Whole w h t cs :=
  (hg.block h H.lt (by intro e; injection e with e; exact hne e.symm)).trans H
theorem whole_new {w : World} {g : Nat} (t : TypeId) (cs : Array Value) (h : w.heap.size = g) : Whole (w.alloc (.cells cs t)) g t cs := h ▸ Whole.new w t cs
theorem below_grown {B g : Nat} {w0 w w' : World} (hb : Below B w0 w) (hg : w.grownBy w' (some g)) (hB : B ≤ g) (hs : B ≤ w.heap.size) : Below B w0 w' :=
  hb.grown hg hs fun k hk => by injection hk with hk; omega

theorem row_reads {w : World} {g : Nat} {t : TypeId} {cs : List Value} (h : Whole w g t cs.toArray) : ∀ (j : Nat) (v : Value), cs[j]? = some v → w.drew.cell? ((⟨g, 0, none⟩ : Addr).add j) = some v := by
  intro j v hj
  have : w.cell? ⟨g, j, none⟩ = some v := by rw [h.cell, List.getElem?_toArray, hj]
  by_cases h0 : j = 0
  · subst h0
    simpa [Addr.add] using this
  · simpa [Addr.add, h0] using this

end Chacha
end Go.Proofs.Ytdhjgenijieeaaa

/-! from Limbs -/
namespace Go.Proofs.Ytdhjgenijieeaaa
namespace Mem
open Go.RowKit

end Mem

namespace Poly
open Go.ChangeShapes Go.WideShapes Go.ChangeAt Go.RowKit
open Num Mem Words Chacha

theorem whole_range {w : World} {g : Nat} {t : TypeId} {cs : List Value} (h : Whole w g t cs.toArray) : w.rangeAt g 0 cs := by
  intro j v hj
  rw [Nat.zero_add, h.cell, List.getElem?_toArray, hj]

theorem results_cell_tmp {fn : Func} {p u : Tmp} {ty : TypeId} {P : Program} (h : fn.results = #[.cell p ty, .tmp u]) (tmps : Array Value) (w : World) (g : Nat) (t : TypeId) (cs : List Value) (d : TypeDesc)
    (hp : tmps.getD p undef = .pointer (some ⟨g, 0, none⟩)) (hg : Whole w g t cs.toArray)
    (hu : P.underlying ty = some d) (hd : d.isRow = true) (hi : (P.info? ty).map (·.size) = some cs.length) :
    (results fn tmps).run P w = .ok (.tuple #[.agg cs.toArray, tmps.getD u undef]) w := by
  have hp' : tmps[p]?.getD undef = .pointer (some ⟨g, 0, none⟩) := by simpa using hp
  simp [results, h, hp', asAddr, run_loadVar_mid w g 0 ty cs d (whole_range hg) hu hd hi]

end Poly
end Go.Proofs.Ytdhjgenijieeaaa

/-! from Str -/
namespace Go.Proofs.Ytdhjgenijieeaaa
namespace Mem
open Go.RowKit

/-- a slice of n bytes at A reads as f -/
def Rd (w : World) (A : Option Addr) (n : Nat) (f : Nat → Nat) : Prop := n = 0 ∨ ∃ b off, A = some ⟨b, off, none⟩ ∧ b < w.heap.size ∧ ∀ i, i < n → w.cell? ⟨b, off + i, none⟩ = some (.int .u8 (f i : Nat))

theorem Rd.below {w w' : World} {A : Option Addr} {n : Nat} {f : Nat → Nat} {B : Nat} (h : Rd w A n f) (hb : Below B w w') (hB : w.heap.size ≤ B) : Rd w' A n f := by
  rcases h with h | ⟨b, off, hA, hlt, hc⟩
  · exact .inl h
  · exact .inr ⟨b, off, hA, Nat.lt_of_lt_of_le hlt hb.size, fun i hi => (hb.cell (p := ⟨b, off + i, none⟩) (Nat.lt_of_lt_of_le hlt hB)).trans (hc i hi)⟩

theorem Rd.drewN {w : World} {A : Option Addr} {n : Nat} {f : Nat → Nat} (h : Rd w A n f) (k : Nat) : Rd (w.drewN k) A n f := h

/-- a row that the call itself made -/
theorem Rd.of_whole {w : World} {g n : Nat} {t : TypeId} {f : Nat → Nat} (h : Whole w g t (byteCells f n).toArray) : Rd w (some ⟨g, 0, none⟩) n f := by
  refine .inr ⟨g, 0, rfl, h.lt, fun i hi => ?_⟩
  rw [Nat.zero_add, h.cell, List.getElem?_toArray, byteCells_get f n i hi]

/-- a row that has just been laid -/
theorem Rd.of_new {w : World} {g n : Nat} {t : TypeId} {cs : Array Value} {f : Nat → Nat} (hg : g = w.heap.size) (hc : cs = (byteCells f n).toArray) : Rd (w.alloc (.cells cs t)) (some ⟨g, 0, none⟩) n f := by
  subst hg
  subst hc
  exact Rd.of_whole (Whole.new _ _ _)

/-- a slice of bytes that came in reads as a function -/
theorem rd_of_row {w : World} {a : Option Addr} {len cap : Nat} {zs : List Int} (h : IsRow .u8 w a len cap zs) :
    ∃ f : Nat → Nat, (∀ i, f i < 256) ∧ Rd w a len f ∧ len ≤ cap ∧ cap ≤ 9223372036854775807 := by
  rcases h with ⟨rfl, rfl, rfl, rfl⟩ | ⟨x, rfl, hl, hm, hz, hcell, hwz⟩
  · exact ⟨fun _ => 0, fun _ => Nat.zero_lt_succ 255, .inl rfl, by omega, by omega⟩
  · refine ⟨fun i => (zs.getD i 0).toNat % 256, fun i => Nat.mod_lt _ (by omega), ?_, hl, by simpa [maxLen] using hm⟩
    rcases Nat.eq_zero_or_pos len with h0 | h0
    · exact .inl h0
    · obtain ⟨b, off, spot⟩ := x
      have hc := hcell 0 (by omega)
      have hspot : spot = none := by simpa [Addr.add] using World.cell?_spot hc
      subst hspot
      refine .inr ⟨b, off, rfl, ?_, fun i hi => ?_⟩
      · rcases Nat.lt_or_ge b w.heap.size with k | k
        · exact k
        · exfalso
          simp [Addr.add, World.cell?, Array.getElem?_eq_none k] at hc
      · have hci := hcell i (by omega)
        have hadd : (⟨b, off, none⟩ : Addr).add i = ⟨b, off + i, none⟩ := by unfold Addr.add; split <;> simp_all
        rw [hadd] at hci
        have hil : i < zs.length := by omega
        have hw := hwz (zs.getD i 0) (by simp [List.getD, hil])
        obtain ⟨v, hv, hv2⟩ := nat_u8 hw
        have e : (zs.getD i 0).toNat % 256 = v := by rw [hv]; omega
        show _ = some (Value.int .u8 (((zs.getD i 0).toNat % 256 : Nat) : Int))
        rw [hci, e, hv]

/-- the string of n bytes that a function tells -/
def strOf (g : Nat → Nat) (n : Nat) : ByteArray := ⟨((List.range n).map fun i => UInt8.ofNat (g i)).toArray⟩

theorem strOf_size (g : Nat → Nat) (n : Nat) : (strOf g n).size = n := by simp [strOf, ByteArray.size]
theorem strOf_congr {f g : Nat → Nat} {n : Nat} (h : ∀ i, i < n → f i = g i) : strOf f n = strOf g n := by
  unfold strOf
  rw [List.map_congr_left (fun i hi => by rw [h i (List.mem_range.1 hi)])]

/-- two such strings are one if they are as long, and tell the same bytes -/
theorem strOf_eq_iff {f g : Nat → Nat} {n m : Nat} (hf : ∀ i, f i < 256) (hg : ∀ i, g i < 256) : strOf f n = strOf g m ↔ n = m ∧ ∀ i, i < n → f i = g i := by
  constructor
  · intro h
    have e : n = m := by
      have := congrArg ByteArray.size h
      rwa [strOf_size, strOf_size] at this
    subst e
    refine ⟨rfl, fun i hi => ?_⟩
    have h2 : ((List.range n).map fun i => UInt8.ofNat (f i)) = ((List.range n).map fun i => UInt8.ofNat (g i)) := by
      have := congrArg (fun s : ByteArray => s.data.toList) h
      simpa [strOf] using this
    have h3 := congrArg (fun l : List UInt8 => l[i]?) h2
    simp only [List.getElem?_map, List.getElem?_range hi, Option.map_some, Option.some.injEq] at h3
    have h4 := congrArg UInt8.toNat h3
    simp only [UInt8.toNat_ofNat'] at h4
    have := hf i
    have := hg i
    omega
  · rintro ⟨rfl, h⟩
    exact strOf_congr h

/-- byte i of a string -/
def chr (s : ByteArray) (i : Nat) : Nat := (s.data.toList.getD i 0).toNat
theorem chr_lt (s : ByteArray) (i : Nat) : chr s i < 256 := (s.data.toList.getD i 0).toNat_lt
theorem chr_get (s : ByteArray) (i : Nat) (h : i < s.size) : (s[i]'h).toNat = chr s i := by
  have h' : i < s.data.size := h
  show (s.data[i]'h').toNat = (s.data.toList[i]?.getD 0).toNat
  rw [Array.getElem?_toList, Array.getElem?_eq_getElem h']
  rfl
theorem strOf_chr (s : ByteArray) : strOf (chr s) s.size = s := by
  have : s.data.size = s.size := rfl
  rcases s with ⟨d⟩
  unfold strOf
  congr 1
  apply Array.ext_getElem?
  intro i
  by_cases h : i < d.size
  · simp [chr, h, List.getD, ByteArray.size]
  · simp [chr, h, ByteArray.size]

theorem strOfNums_eq (f : Nat → Nat) (n : Nat) : strOfNums ((List.range n).map fun i => ((f i : Nat) : Int)) = strOf f n := by
  unfold strOfNums strOf
  simp

/-- 'string(b)' -/
theorem run_string_of {P : Program} {w : World} {A : Option Addr} {n c : Nat} {f : Nat → Nat} (src dst e : TypeId) (hs : P.underlying src = some (.slice e)) (he : P.underlying e = some (.int .u8)) (hd : P.underlying dst = some .string)
    (h : Rd w A n f) : (convert src dst (.slice A n c)).run P w = .ok (.string (strOf f n)) w := by
  rcases h with rfl | ⟨b, off, rfl, _, hc⟩
  · rcases A with _ | a
    · rw [run_convert_bytes_nil w src e hs he 0 c dst hd]
      rfl
    · rw [run_convert_bytes_string w src dst e _ 0 c hs he hd, run_bytesToString w a 0 c [] (by
        have := run_loadCells_list (P := P) w a [] (fun j v hj => by simp at hj)
        simpa using this)]
      rfl
  · have := run_convert_bytes_arg (P := P) w src e hs he b off n c ((List.range n).map fun i => ((f i : Nat) : Int)) (by simp) (fun i hi => by
      rw [hc i hi]
      simp [hi, List.getD]) dst hd
    rwa [strOfNums_eq] at this

end Mem
end Go.Proofs.Ytdhjgenijieeaaa

/-! from Own -/
namespace Go.Proofs.Ytdhjgenijieeaaa
namespace Mem
open Go.RowKit

theorem byteCells_snoc (f : Nat → Nat) (n : Nat) : byteCells f (n + 1) = byteCells f n ++ [.int .u8 (f n : Nat)] := by
  simp [byteCells, List.range_succ]

theorem byteCells_append (f g : Nat → Nat) (n m : Nat) : byteCells f n ++ byteCells g m = byteCells (fun i => if i < n then f i else g (i - n)) (n + m) := by
  apply List.ext_getElem?
  intro i
  by_cases h1 : i < n
  · rw [List.getElem?_append_left (by rw [byteCells_length]; exact h1), byteCells_get _ _ _ h1, byteCells_get _ _ _ (by omega), if_pos h1]
  · rw [List.getElem?_append_right (by rw [byteCells_length]; omega), byteCells_length]
    by_cases h2 : i < n + m
    · rw [byteCells_get _ _ _ (by omega), byteCells_get _ _ _ h2, if_neg h1]
    · rw [List.getElem?_eq_none (by rw [byteCells_length]; omega), List.getElem?_eq_none (by rw [byteCells_length]; omega)]

/-- the slice at A of n bytes is the call's own (from block B on), and reads as f -/
def Own (w : World) (B : Nat) (t : TypeId) (A : Option Addr) (n c : Nat) (f : Nat → Nat) : Prop := w.ownsRow B t 1 (.slice A n c) n (byteCells f n)

section
variable {w w' : World} {B : Nat} {t : TypeId} {A : Option Addr} {n c : Nat} {f g : Nat → Nat}
theorem Own.nil (w : World) (B : Nat) (t : TypeId) (f : Nat → Nat) : Own w B t none 0 0 f := ⟨rfl, .inl ⟨rfl, rfl⟩⟩
theorem Own.congr (h : Own w B t A n c f) (e : ∀ i, i < n → f i = g i) : Own w B t A n c g := by
  unfold Own
  rw [← byteCells_congr e]
  exact h
theorem Own.alloc (h : Own w B t A n c f) (o : Obj) : Own (w.alloc o) B t A n c f := World.ownsRow.alloc h o
theorem Own.drewN (h : Own w B t A n c f) (k : Nat) : Own (w.drewN k) B t A n c f := h
theorem Own.rd (h : Own w B t A n c f) : Rd w A n f := by
  have h0 : w.ownsRow B t 1 (.slice A n c) n (byteCells f n) := h
  rcases h.2 with ⟨_, rfl⟩ | ⟨b, cap, cur, e, _, hh, _⟩
  · exact .inl rfl
  · obtain ⟨rfl, rfl⟩ : A = some ⟨b, 0, none⟩ ∧ c = cap := by
      injection e with e1 e2 e3
      exact ⟨e1, e3⟩
    refine .inr ⟨b, 0, rfl, ?_, fun i hi => ?_⟩
    · rcases Nat.lt_or_ge b w.heap.size with k | k
      · exact k
      · rw [Array.getElem?_eq_none k] at hh
        cases hh
    · rw [Nat.zero_add, h0.cellAt i (by omega), byteCells_get f n i hi]
theorem Own.below {B' : Nat} (h : Own w B t A n c f) (hb : Below B' w w') (hB : w.heap.size ≤ B') : Own w' B t A n c f := by
  refine ⟨h.1, ?_⟩
  rcases h.2 with k | ⟨b, cap, cur, e, hg, hh, r⟩
  · exact .inl k
  · refine .inr ⟨b, cap, cur, e, hg, ?_, r⟩
    have hlt : b < w.heap.size := by
      rcases Nat.lt_or_ge b w.heap.size with k | k
      · exact k
      · rw [Array.getElem?_eq_none k] at hh
        cases hh
    exact (hb.block b (by omega)).trans hh
theorem Own.more {B' : Nat} (h : Own w B t A n c f) (hB : B' ≤ B) : Own w B' t A n c f := by
  refine ⟨h.1, ?_⟩
  rcases h.2 with k | ⟨b, cap, cur, e, hg, r⟩
  · exact .inl k
  · exact .inr ⟨b, cap, cur, e, Nat.le_trans hB hg, r⟩

/-- what an append leaves is a slice of which the same is told -/
theorem Own.of_append {v : Value} {xs : List Value} {m : Nat} (h : w.ownsRow B t 1 v m xs) (e : xs = byteCells f m) : ∃ A c, v = .slice A m c ∧ Own w B t A m c f := by
  subst e
  rcases h.2 with ⟨rfl, rfl⟩ | ⟨b, cap, cur, rfl, r⟩
  · exact ⟨none, 0, rfl, h⟩
  · exact ⟨some ⟨b, 0, none⟩, cap, rfl, h⟩

/-- of a call's own row: all that was below it stays -/
theorem Own.keeps {W w1 : World} (h : Own w B t A n c f) (hb : Below B W w) (o : Obj) (hg : (w.alloc o).grownBy w1 (Value.slice A n c).ownBlock) (hB : B ≤ w.heap.size) : Below B W w1 := by
  refine (hb.alloc hB o).grown hg (by simp; omega) fun k hk => ?_
  rcases h.2 with ⟨e, _⟩ | ⟨b, cap, cur, e, hgB, r⟩
  · rw [e] at hk
    simp [Value.ownBlock] at hk
  · rw [e] at hk
    simp [Value.ownBlock] at hk
    omega
end

end Mem
end Go.Proofs.Ytdhjgenijieeaaa

/-! from Cat -/
namespace Go.Proofs.Ytdhjgenijieeaaa
namespace Mem
open Go.RowKit

section
variable {P : Program}

theorem keeps_row {W w w' : World} {B e size n : Nat} {v : Value} {xs : List Value} (own : w.ownsRow B e size v n xs) (bel : Below B W w) (hg : w.grownBy w' v.ownBlock) (hB : B ≤ w.heap.size) : Below B W w' :=
  bel.grown hg hB fun k hk => (World.ownsRow.lt own k hk).1

theorem wpList_cat {ops : Array Oper} {rest : List Oper} {o : Oper} {a : Act} {Q : Exit → Act → World → Prop} {W w : World} {B k c : Nat} {A : Option Addr} {xs : List Value} (hgd : o.guard = none) (s x : Operand) (t e : TypeId) (z : Value) (by_ : Nat)
    (ht : P.underlying t = some (.slice e)) (hinfo : (P.info? e).map (fun i => (i.zero, i.size, i.bytes)) = some (some z, 1, by_)) (hz : z.cells.size = 1)
    (ho : o.op = .call { callee := .builtin .append, args := #[s, x], argTypes := #[t, t] })
    (hs : a.eval s = .slice A k c) (own : w.ownsRow B e 1 (.slice A k c) k xs) (bel : Below B W w) (hB : B ≤ w.heap.size)
    (ad : Addr) (m cx : Nat) (hx : a.eval x = .slice (some ad) m cx) (ys : List Value) (hl : ys.length = m) (hy : ∀ j u, ys[j]? = some u → w.cell? (ad.add j) = some u) (h1 : ∀ u ∈ ys, u.oneCell' = true) (hk : (k + m) * by_ ≤ 140737488355328) (hk2 : k + m ≤ 140737488355328)
    (h : ∀ A' c' w', w'.ownsRow B e 1 (.slice A' (k + m) c') (k + m) (xs ++ ys) → Below B W w' → B ≤ w'.heap.size → w.grownBy w' (Value.slice A k c).ownBlock → wpList P ops Q rest (a.put o.dst (.slice A' (k + m) c')) w') :
    wpList P ops Q (o :: rest) a w := by
  obtain ⟨i0, hi, hz0, hz1, hz2⟩ := info_parts hinfo
  refine wpList_append_own _ hgd s x t ho B e i0 z 1 by_ ht hi hz0 hz1 hz2 hz (by decide) (.slice A k c) k xs hs own ad m cx ys hx (by rw [hl, Nat.mul_one]) hy h1 (by simp only [maxLen]; omega) hk hB ?_
  intro v' w' h1 h2 _
  have hs' := Nat.le_trans hB h2.size
  rcases h1.2 with ⟨rfl, h0⟩ | ⟨b, cap, cur, rfl, r⟩
  · rw [h0] at h1 h
    exact h none 0 w' h1 (keeps_row own bel h2 hB) hs' h2
  · exact h (some ⟨b, 0, none⟩) cap w' h1 (keeps_row own bel h2 hB) hs' h2

/-- an own row stays under what writes elsewhere only -/
theorem owns_below {w w' : World} {B B' e size n : Nat} {v : Value} {xs : List Value} (own : w.ownsRow B e size v n xs) (hb : Below B' w w') (hB : w.heap.size ≤ B') : w'.ownsRow B e size v n xs := by
  refine ⟨own.1, ?_⟩
  rcases own.2 with k | ⟨g, cap, cur, e', hg, hh, r⟩
  · exact .inl k
  · refine .inr ⟨g, cap, cur, e', hg, ?_, r⟩
    have hlt : g < w.heap.size := by
      rcases Nat.lt_or_ge g w.heap.size with k | k
      · exact k
      · rw [Array.getElem?_eq_none k] at hh
        cases hh
    exact (hb.block g (by omega)).trans hh
theorem owns_more {w : World} {B B' e size n : Nat} {v : Value} {xs : List Value} (own : w.ownsRow B e size v n xs) (hB : B' ≤ B) : w.ownsRow B' e size v n xs := by
  refine ⟨own.1, ?_⟩
  rcases own.2 with k | ⟨g, cap, cur, e', hg, r⟩
  · exact .inl k
  · exact .inr ⟨g, cap, cur, e', Nat.le_trans hB hg, r⟩
theorem owns_some {w : World} {B e size n c : Nat} {A : Option Addr} {xs : List Value} (own : w.ownsRow B e size (.slice A n c) n xs) (hn : 0 < n) : ∃ g, A = some ⟨g, 0, none⟩ ∧ B ≤ g ∧ g < w.heap.size := by
  rcases own.2 with ⟨_, h0⟩ | ⟨g, cap, cur, e', hg, hh, _⟩
  · omega
  · injection e' with e1 e2 e3
    refine ⟨g, e1, hg, ?_⟩
    rcases Nat.lt_or_ge g w.heap.size with k | k
    · exact k
    · rw [Array.getElem?_eq_none k] at hh
      cases hh
/-- a part of a slice that reads as f, from its front or from a place on -/
theorem rd_front {w : World} {A : Option Addr} {n : Nat} {f : Nat → Nat} (h : Rd w A n f) (m : Nat) (hm : m ≤ n) : Rd w A m f := by
  rcases h with h | ⟨b, off, hA, hlt, hcell⟩
  · exact .inl (by omega)
  · exact .inr ⟨b, off, hA, hlt, fun i hi => hcell i (by omega)⟩
theorem rd_src {w : World} {b off n : Nat} {f : Nat → Nat} (h : ∀ i, i < n → w.cell? ⟨b, off + i, none⟩ = some (.int .u8 (f i : Nat))) : ∀ (j : Nat) (v : Value), (byteCells f n)[j]? = some v → w.cell? ((⟨b, off, none⟩ : Addr).add j) = some v := by
  intro j v hj
  have hj' : j < n := by
    rcases Nat.lt_or_ge j n with k | k
    · exact k
    · rw [List.getElem?_eq_none (by rw [byteCells_length]; exact k)] at hj
      cases hj
  rw [byteCells_get f n j hj'] at hj
  have h2 := h j hj'
  rw [hj] at h2
  by_cases h0 : j = 0
  · subst h0
    simpa [Addr.add] using h2
  · simpa [Addr.add, h0] using h2
end

end Mem
end Go.Proofs.Ytdhjgenijieeaaa

/-! from CatB -/
namespace Go.Proofs.Ytdhjgenijieeaaa
namespace Mem
open Go.RowKit

section
variable {P : Program}

theorem wp_cat {o : Oper} {a : Act} {K : Act → World → Prop} {Q : Exit → Act → World → Prop} {W w : World} {B k c : Nat} {A : Option Addr} {xs : List Value} (s x : Operand) (t e : TypeId) (z : Value) (by_ : Nat)
    (ht : P.underlying t = some (.slice e)) (hinfo : (P.info? e).map (fun i => (i.zero, i.size, i.bytes)) = some (some z, 1, by_)) (hz : z.cells.size = 1)
    (ho : o.op = .call { callee := .builtin .append, args := #[s, x], argTypes := #[t, t] })
    (hs : a.eval s = .slice A k c) (own : w.ownsRow B e 1 (.slice A k c) k xs) (bel : Below B W w) (hB : B ≤ w.heap.size)
    (ad : Addr) (m cx : Nat) (hx : a.eval x = .slice (some ad) m cx) (ys : List Value) (hl : ys.length = m) (hy : ∀ j u, ys[j]? = some u → w.cell? (ad.add j) = some u) (h1 : ∀ u ∈ ys, u.oneCell' = true) (hk : (k + m) * by_ ≤ 140737488355328) (hk2 : k + m ≤ 140737488355328)
    (h : ∀ A' c' w', w'.ownsRow B e 1 (.slice A' (k + m) c') (k + m) (xs ++ ys) → Below B W w' → B ≤ w'.heap.size → w.grownBy w' (Value.slice A k c).ownBlock → ((Value.slice A' (k + m) c').ownBlock = (Value.slice A k c).ownBlock ∨ (Value.slice A' (k + m) c').ownBlock = some w.heap.size) → K (a.put o.dst (.slice A' (k + m) c')) w') :
    o.wp P a w K Q := by
  obtain ⟨i0, hi, hz0, hz1, hz2⟩ := info_parts hinfo
  obtain ⟨v', w', hr, h1, h2, h3, h4⟩ := run_append_own_at (P := P) w B t o.type e i0 z 1 by_ ht hi hz0 hz1 hz2 hz (by decide) (.slice A k c) k xs own ad m cx ys (by rw [hl, Nat.mul_one]) hy h1 (by simp only [maxLen]; omega) hk hB
  unfold Oper.wp execOp
  simp only [ho, resolve, invoke, builtin, Sem.run_bind, Sem.run_pure, Result.andThen_ok, List.map_toArray, List.map_cons, List.map_nil, hs, hx, hr]
  have hs' := Nat.le_trans hB h2.size
  rcases h1.2 with ⟨rfl, h0⟩ | ⟨b, cap, cur, rfl, r⟩
  · rw [h0] at h1 h
    exact h none 0 w' h1 (keeps_row own bel h2 hB) hs' h2 (by simpa [Value.ownBlock] using h4)
  · exact h (some ⟨b, 0, none⟩) cap w' h1 (keeps_row own bel h2 hB) hs' h2 (by simpa [Value.ownBlock] using h4)
end

end Mem
end Go.Proofs.Ytdhjgenijieeaaa

/-! from Quiet -/
namespace Go.Proofs.Ytdhjgenijieeaaa
namespace Quiet
open Go.RowKit Mem

section
variable {P : Program} {o : Oper} {a : Act} {C : World → Prop} {K : Act → Prop}

/-- what yields its value in whatever world -/
theorem quiet_pure (v : Value) (h : ∀ w, (execOp a.eval o).run P w = .ok (.value v) w) (hk : K (a.put o.dst v)) : o.quiet P a C K :=
  ⟨v, fun w _ => by unfold Oper.quietAt; rw [h w]; exact ⟨rfl, rfl⟩, hk⟩

/-- 'string(b)' of a slice that reads alike in every world of the class -/
theorem quiet_string (src dst e : TypeId) (x : Operand) (ho : o.op = .convert src dst x) {A : Option Addr} {n c : Nat} {f : Nat → Nat} (hx : a.eval x = .slice A n c)
    (hs : P.underlying src = some (.slice e)) (he : P.underlying e = some (.int .u8)) (hd : P.underlying dst = some .string)
    (h : ∀ w, C w → Rd w A n f) (hk : K (a.put o.dst (.string (strOf f n)))) : o.quiet P a C K := by
  refine ⟨_, fun w hw => ?_, hk⟩
  unfold Oper.quietAt
  have : (execOp a.eval o).run P w = .ok (.value (.string (strOf f n))) w := by
    unfold execOp
    simp only [ho, hx, Sem.run_bind, run_string_of src dst e hs he hd (h w hw), Result.andThen_ok, Sem.run_pure]
  rw [this]
  exact ⟨rfl, rfl⟩

/-- a call, by its contract -/
theorem quiet_call (f : FuncId) (args : Array Value) (v : Value) (hr : ∀ w, (execOp a.eval o).run P w = .ok (.enter f args) w)
    (hc : ∀ w, C w → Calls P f args w fun e w' => e = .returned v ∧ C w') (hk : K (a.put o.dst v)) : o.quiet P a C K := by
  refine ⟨v, fun w hw => ?_, hk⟩
  unfold Oper.quietAt
  rw [hr w]
  exact ⟨rfl, hc w hw⟩
end

theorem region_class {P : Program} {C : World → Prop} {id : Nat} {Q : Exit → Act → World → Prop} {a : Act} {w : World} {l : List Oper} (hm : P.follows .mixedOrders = true) (hB : Region.lexB .any l.toArray = true) (hC : C w.drew)
    (h : wpQuiet P l.toArray C (fun a' => ∀ w', C w' → Q .normal a' w') l a) : (Code.region id l.toArray true).wp P Q a w :=
  wp_region_quiet (C := C) hm hB hC (by simpa using h)

/-! ### one order after the other, by hand: what yields alike in every world that meets S is taken first; what alone may come up is carried out -/
section
variable {P : Program} {Q : Exit → Act → World → Prop} {S : World → Prop} {l : List Oper} {fuel k : Nat} {listed : Array Bool} {a : Act} {w : World} {o : Oper} {rest : List Oper}

theorem drop_get (ho : l.drop k = o :: rest) : l.toArray[k]? = some o := by
  have : l[k]? = (l.drop k)[0]? := by rw [List.getElem?_drop, Nat.add_zero]
  rw [List.getElem?_toArray, this, ho]
  rfl

theorem region_start {id : Nat} (S : World → Prop) (hm : P.follows .mixedOrders = true) (hS : S w.drew) (h : ∀ w', S w' → wpAnyH P .any l.toArray Q S l.length (Array.replicate l.length false) a w') : (Code.region id l.toArray true).wp P Q a w :=
  wp_region_held_drew (S := S) hm hS fun hS => by simpa using h _ hS

theorem region_drew {id : Nat} (S : World → Prop) (hm : P.follows .mixedOrders = true) (hS : S w.drew) (h : S w.drew → wpAnyH P .any l.toArray Q S l.length (Array.replicate l.length false) a w.drew) : (Code.region id l.toArray true).wp P Q a w :=
  wp_region_held_drew (S := S) hm hS fun hS => by simpa using h hS

theorem take (k : Nat) (v : Value) (ho : l.drop k = o :: rest) (hs : Region.noSelect l.toArray = true) (hf : Region.free .any l.toArray listed k = true) (hr : (Region.ready .any l.toArray listed).contains k = true)
    (hQ : ∀ c a w, Q (.panic c) (a.put o.dst v) w → Q (.panic c) a w) (hw : Region.wanted o (yielded l.toArray a.tmps) = true) (hS : S w) (hy : ∀ w, S w → (execOp a.eval o).run P w = .ok (.value v) w)
    (h : wpAnyH P .any l.toArray Q S fuel (listed.setIfInBounds k true) (a.put o.dst v) w) : wpAnyH P .any l.toArray Q S (fuel + 1) listed a w :=
  wpAnyH_take (drop_get ho) hs hf hr hQ (.inl ⟨hw, hy⟩) hS h

theorem pass (k : Nat) (ho : l.drop k = o :: rest) (hs : Region.noSelect l.toArray = true) (hf : Region.free .any l.toArray listed k = true) (hr : (Region.ready .any l.toArray listed).contains k = true)
    (hQ : ∀ c a w, Q (.panic c) (a.put o.dst undef) w → Q (.panic c) a w) (hw : Region.wanted o (yielded l.toArray a.tmps) = false) (hS : S w)
    (h : wpAnyH P .any l.toArray Q S fuel (listed.setIfInBounds k true) (a.put o.dst undef) w) : wpAnyH P .any l.toArray Q S (fuel + 1) listed a w :=
  wpAnyH_take (drop_get ho) hs hf hr hQ (.inr ⟨hw, rfl⟩) hS h

theorem alone (k : Nat) (ho : l.drop k = o :: rest) (hr : Region.ready .any l.toArray listed = [k]) (hw : Region.wanted o (yielded l.toArray a.tmps) = true)
    (h : ∀ K : Act → World → Prop, Shut (∀ a w, S w → wpAnyH P .any l.toArray Q S fuel (listed.setIfInBounds k true) a w → K a w) → Oper.wp P o a w K Q) : wpAnyH P .any l.toArray Q S (fuel + 1) listed a w :=
  wpAnyH_ready hr (by simp) (AllReadyH.cons (drop_get ho) (fun K hK => by rw [if_pos hw]; exact h K (fun a w h1 h2 => hK.out a w h1 (fun _ => h2))) AllReadyH.nil)

theorem alone_run (k : Nat) (v : Value) (ho : l.drop k = o :: rest) (hr : Region.ready .any l.toArray listed = [k]) (hw : Region.wanted o (yielded l.toArray a.tmps) = true) (hS : S w)
    (hrun : (execOp a.eval o).run P w = .ok (.value v) w) (h : wpAnyH P .any l.toArray Q S fuel (listed.setIfInBounds k true) (a.put o.dst v) w) : wpAnyH P .any l.toArray Q S (fuel + 1) listed a w :=
  alone k ho hr hw fun K hK => by
    unfold Oper.wp
    rw [hrun]
    exact hK.out _ _ hS h

theorem region_end (hr : Region.ready .any l.toArray listed = []) (h : Q .normal a w) : wpAnyH P .any l.toArray Q S fuel listed a w := wpAnyH_done hr h fuel
end

theorem run_string_op {P : Program} {o : Oper} {a : Act} {w : World} (src dst e : TypeId) (x : Operand) (ho : o.op = .convert src dst x) {A : Option Addr} {n c : Nat} {f : Nat → Nat} (hx : a.eval x = .slice A n c)
    (hs : P.underlying src = some (.slice e)) (he : P.underlying e = some (.int .u8)) (hd : P.underlying dst = some .string)
    (h : Rd w A n f) : (execOp a.eval o).run P w = .ok (.value (.string (strOf f n))) w := by
  unfold execOp
  simp only [ho, hx, Sem.run_bind, run_string_of src dst e hs he hd h, Result.andThen_ok, Sem.run_pure]

end Quiet
end Go.Proofs.Ytdhjgenijieeaaa

/-! from Early -/
namespace Go.Proofs.Ytdhjgenijieeaaa
namespace Quiet
open Go.RowKit Mem

section
variable {P : Program} {ops : Array Oper} {Q : Exit → Act → World → Prop} {md : Region.Mode} {S : World → Prop}

/-- in every world of S this operation gives v, itself or by a call, and nothing else happens -/
def Early (P : Program) (ops : Array Oper) (S : World → Prop) (o : Oper) (v : Value) (a : Act) : Prop :=
  Region.wanted o (yielded ops a.tmps) = true ∧
  ∀ w, S w → ∃ n, (execOp a.eval o).run P w = .ok n w ∧ (n = .value v ∨ ∃ f args, n = .enter f args ∧ Calls P f args w fun e w' => e = .returned v ∧ w' = w)

theorem Early.carry {o : Oper} {v : Value} {a b : Act} (h : Early P ops S o v a) (he : execOp b.eval o = execOp a.eval o) (hw : Region.wanted o (yielded ops b.tmps) = Region.wanted o (yielded ops a.tmps)) : Early P ops S o v b := by
  unfold Early
  rw [he, hw]
  exact h

theorem Early.now {i : Nat} {o : Oper} {v : Value} {a : Act} (hi : ops[i]? = some o) (h : Early P ops S o v a) {K : Act → World → Prop} {w : World} (hS : S w) (hk : K (a.put o.dst v) w) : wpOp P ops Q i K a w := by
  obtain ⟨n, hr, hn⟩ := h.2 w hS
  simp only [wpOp, hi, h.1, if_true]
  refine .inl ?_
  unfold Oper.wp
  rw [hr]
  rcases hn with rfl | ⟨f, args, rfl, hc⟩
  · exact hk
  · refine Calls.mono hc ?_
    rintro e w' ⟨rfl, rfl⟩
    exact hk

/-- another operation, apart from this one, goes as it went with the value laid already -/
theorem Early.swap {j : Nat} {o p : Oper} {v : Value} (hj : ops[j]? = some p) (hap : o.apart ops p = true) (hso : ∀ cs b, o.op ≠ .select cs b) (hsp : ∀ cs b, p.op ≠ .select cs b)
    (hQ : ∀ c a w, Q (.panic c) (a.put o.dst v) w → Q (.panic c) a w) {K : Act → World → Prop} {a : Act} {w : World} (hy : Early P ops S o v a) (h : wpOp P ops Q j K (a.put o.dst v) w) :
    wpOp P ops Q j (fun a' w' => Early P ops S o v a' ∧ K (a'.put o.dst v) w') a w := by
  obtain ⟨h1, h2, h3⟩ := Oper.apart_spec hap
  have stay : ∀ (b : Act) (u : Value), Early P ops S o v b → Early P ops S o v (b.put p.dst u) := fun b u hb => hb.carry (execOp_put o hso b p.dst u h3) (wanted_put o b p.dst u h3)
  have eJ := execOp_put p hsp a o.dst v h1
  have nxt : ∀ (b : Act) (u : Value) (w' : World), Early P ops S o v b → K ((b.put o.dst v).put p.dst u) w' → Early P ops S o v (b.put p.dst u) ∧ K ((b.put p.dst u).put o.dst v) w' := fun b u w' hb hk => ⟨stay b u hb, by rw [← Act.put_comm b v u h2]; exact hk⟩
  simp only [wpOp, hj] at h ⊢
  rw [wanted_put p a o.dst v h1] at h
  by_cases hw : Region.wanted p (yielded ops a.tmps) = true
  · rw [if_pos hw] at h ⊢
    rcases h with h | ⟨k1, k2⟩
    · left
      unfold Oper.wp at h ⊢
      rw [eJ] at h
      cases hr : (execOp a.eval p).run P w with
      | ok n w' =>
        rw [hr] at h
        cases n with
        | value u => exact nxt a u w' hy h
        | skip => exact nxt a undef w' hy h
        | defer d =>
          have hd : Early P ops S o v { a with defers := d :: a.defers } := hy.carry rfl rfl
          refine nxt _ undef w' hd ?_
          rw [← Act.put_defers]
          exact h
        | enter f args =>
          refine Calls.mono h ?_
          intro e w2 he
          cases e with
          | returned u => exact nxt a u w2 hy he
          | panicked c => exact hQ _ _ _ he
          | outgrown => exact he
        | row r args => exact Rows.mono h fun u w2 he => nxt a u w2 hy he
        | _ => exact absurd h (by simp [Oper.upon])
      | halt x w' =>
        rw [hr] at h
        cases x with
        | panic u => exact hQ _ _ _ h
        | _ => exact absurd h (by simp [Oper.upon])
    · refine .inr ⟨?_, k2⟩
      unfold Oper.asks at k1 ⊢
      rw [eJ] at k1
      exact k1
  · rw [if_neg hw] at h ⊢
    exact nxt a undef w hy h

theorem early_first {i : Nat} {o : Oper} {v : Value} (hi : ops[i]? = some o) (hsel : ∀ (j : Nat) (p : Oper) cs b, ops[j]? = some p → p.op ≠ .select cs b) (hQ : ∀ c a w, Q (.panic c) (a.put o.dst v) w → Q (.panic c) a w) :
    ∀ (fuel : Nat) (listed : Array Bool) (a : Act) (w : World),
      (∀ j p, ops[j]? = some p → j ≠ i → listed.getD j true = false → (∀ e ∈ p.after, Region.binds md e = true → e.on ≠ i) → o.apart ops p = true) →
      i ∈ Region.ready md ops listed → Early P ops S o v a → S w → wpAnyH P md ops Q S fuel (listed.setIfInBounds i true) (a.put o.dst v) w → wpAnyH P md ops Q S (fuel + 1) listed a w := by
  intro fuel
  induction fuel with
  | zero =>
    intro listed a w _ hr hy hS H
    constructor
    · intro h0
      rw [h0] at hr
      cases hr
    · intro j hj
      by_cases e : j = i
      · subst e
        exact hy.now hi hS ⟨hS, H⟩
      · have := ready_mono hj e
        rw [H.1] at this
        cases this
  | succ fuel ih =>
    intro listed a w hfree hr hy hS H
    constructor
    · intro h0
      rw [h0] at hr
      cases hr
    · intro j hj
      by_cases e : j = i
      · subst e
        exact hy.now hi hS ⟨hS, H⟩
      · obtain ⟨hun, p, hp, hdone⟩ := mem_ready.1 hj
        have hiun := (mem_ready.1 hr).1
        have hno : ∀ d ∈ p.after, Region.binds md d = true → d.on ≠ i := by
          intro d hd hb hq
          have hl := hdone d hd hb
          rw [hq] at hl
          rcases Nat.lt_or_ge i listed.size with hlt | hge
          · simp [hlt] at hiun hl
            rw [hiun] at hl
            cases hl
          · simp [Array.getElem?_eq_none hge] at hl
        refine wpOp_mono ?_ (hy.swap hp (hfree j p hp e hun hno) (fun cs b => hsel i o cs b hi) (fun cs b => hsel j p cs b hp) hQ (H.2 j (ready_mono hj e)))
        rintro a' w' ⟨hy', hS', hrest⟩
        refine ⟨hS', ih (listed.setIfInBounds j true) a' w' ?_ (ready_mono hr (Ne.symm e)) hy' hS' ?_⟩
        · intro k q hq hki hku hkn
          refine hfree k q hq hki ?_ hkn
          by_cases ejk : j = k
          · subst ejk
            exact hun
          · rw [getD_set_ne true ejk] at hku
            exact hku
        · rw [Array.setIfInBounds_comm _ _ e]
          exact hrest

theorem take_call {l : List Oper} {fuel : Nat} {listed : Array Bool} {a : Act} {w : World} {o : Oper} {rest : List Oper} (k : Nat) (v : Value) (f : FuncId) (args : Array Value) (ho : l.drop k = o :: rest) (hs : Region.noSelect l.toArray = true) (hf : Region.free .any l.toArray listed k = true) (hr : (Region.ready .any l.toArray listed).contains k = true)
    (hQ : ∀ c a w, Q (.panic c) (a.put o.dst v) w → Q (.panic c) a w) (hw : Region.wanted o (yielded l.toArray a.tmps) = true) (hS : S w)
    (hrun : ∀ w, (execOp a.eval o).run P w = .ok (.enter f args) w) (hc : ∀ w, S w → Calls P f args w fun e w' => e = .returned v ∧ w = w')
    (h : wpAnyH P .any l.toArray Q S fuel (listed.setIfInBounds k true) (a.put o.dst v) w) : wpAnyH P .any l.toArray Q S (fuel + 1) listed a w :=
  early_first (drop_get ho) (Region.noSelect_spec hs) hQ fuel listed a w (Region.free_spec (drop_get ho) hf) (by simpa using hr)
    ⟨hw, fun w hS => ⟨_, hrun w, .inr ⟨f, args, rfl, (hc w hS).mono fun _ _ ⟨h1, h2⟩ => ⟨h1, h2.symm⟩⟩⟩⟩ hS h
theorem run_load_op {o : Oper} {a : Act} {w : World} (ty : TypeId) (x : Operand) (ho : o.op = .load ty x) (g : Nat) (hx : a.eval x = .pointer (some ⟨g, 0, none⟩)) {t : TypeId} {cs : Array Value} {d : TypeDesc} (hg : Whole w g t cs)
    (hu : P.underlying ty = some d) (hd : (match d with | .struct _ | .array _ _ => true | _ => false) = true) (hi : (P.info? ty).map (·.size) = some cs.size) : (execOp a.eval o).run P w = .ok (.value (.agg cs)) w := by
  unfold execOp
  simp only [ho, hx, Instr.loadAt, Instr.sureAddr, Sem.run_bind, Sem.run_pure, Result.andThen_ok, run_loadVar_row w g t ty cs (0, 0) d hg hu hd hi]
/-- the foot of a region: a call whose value is laid into a new variable, which may be made before or behind the call -/
theorem call_alloc_store {l : List Oper} {fuel : Nat} {listed : Array Bool} {a : Act} {w W : World} (k1 k2 k3 : Nat) {o1 o2 o3 : Oper} {r1 r2 r3 : List Oper} (f : FuncId) (args : Array Value) (T : TypeId) (d1 d2 : Tmp) (zs cs : Array Value)
    (h1 : l.drop k1 = o1 :: r1) (h2 : l.drop k2 = o2 :: r2) (h3 : l.drop k3 = o3 :: r3)
    (hr : Region.ready .any l.toArray listed = [k1, k2]) (hra : Region.ready .any l.toArray (listed.setIfInBounds k1 true) = [k2]) (hrb : Region.ready .any l.toArray (listed.setIfInBounds k2 true) = [k1])
    (hr3 : Region.ready .any l.toArray ((listed.setIfInBounds k1 true).setIfInBounds k2 true) = [k3]) (hr4 : Region.ready .any l.toArray (((listed.setIfInBounds k1 true).setIfInBounds k2 true).setIfInBounds k3 true) = [])
    (hk : k1 ≠ k2) (g1 : o1.guard = none) (g2 : o2.guard = none) (g3 : o3.guard = none) (hd1 : o1.dst = some d1) (hd2 : o2.dst = some d2) (hd3 : o3.dst = none) (hd : d1 ≠ d2) (hz1 : d1 < a.tmps.size) (hz2 : d2 < a.tmps.size)
    (hst : o3.op = .store T (.tmp d2) (.tmp d1)) (hal : ∀ (a : Act) w, (execOp a.eval o2).run P w = .ok (.value (.pointer (some ⟨w.heap.size, 0, none⟩))) (w.alloc (.cells zs T)))
    (ht : (P.info? T).map (·.size) = some cs.size) (hz : zs.size = cs.size) (hone : cs.all (·.oneCell') = true)
    (hrun : ∀ w, (execOp a.eval o1).run P w = .ok (.enter f args) w) (hrun' : ∀ p w, (execOp (a.put (some d2) p).eval o1).run P w = .ok (.enter f args) w)
    (hc : ∀ w, Below W.heap.size W w → Calls P f args w fun e w' => e = .returned (.agg cs) ∧ Below w.heap.size w w')
    (hS : Below W.heap.size W w)
    (h : ∀ g w', W.heap.size ≤ g → Whole w' g T cs → Below W.heap.size W w' → Q .normal ((a.put (some d1) (.agg cs)).put (some d2) (.pointer (some ⟨g, 0, none⟩))) w') :
    wpAnyH P .any l.toArray Q (fun w' => Below W.heap.size W w') (fuel + 3) listed a w := by
  have want : ∀ (o : Oper) (x : Array Value), o.guard = none → Region.wanted o (yielded l.toArray x) = true := fun o x hg => by simp [Region.wanted, hg]
  have fin : ∀ g w1, W.heap.size ≤ g → Whole w1 g T zs → Below W.heap.size W w1 → wpAnyH P .any l.toArray Q (fun w' => Below W.heap.size W w') (fuel + 1) ((listed.setIfInBounds k1 true).setIfInBounds k2 true) ((a.put (some d1) (.agg cs)).put (some d2) (.pointer (some ⟨g, 0, none⟩))) w1 := by
    intro g w1 hg hw1 hb1
    refine wpAnyH_ready hr3 (by simp) (AllReadyH.cons (drop_get h3) (fun K hK => ?_) AllReadyH.nil)
    rw [if_pos (want _ _ g3)]
    refine wp_store_row T (.tmp d2) (.tmp d1) hst g cs (by simp [Act.eval, Act.put, hz2]) (by simp [Act.eval, Act.put, hz1, Ne.symm hd]) T zs hw1 ht hz hone ?_
    rw [hd3]
    have hb2 := below_setRow hb1 hg cs
    exact hK.out _ _ hb2 fun _ => region_end hr4 (h g _ hg (setRow_heap w1 g _ _ _ _ hw1) hb2)
  refine wpAnyH_ready hr (by simp) (AllReadyH.cons (drop_get h1) (fun K hK => ?_) (AllReadyH.cons (drop_get h2) (fun K hK => ?_) AllReadyH.nil))
  · rw [if_pos (want _ _ g1)]
    unfold Oper.wp
    rw [hrun w]
    refine Calls.mono (hc w hS) ?_
    rintro e w1 ⟨rfl, hb⟩
    have hS1 := below_trans hS hb
    refine hK.out _ _ hS1 fun _ => ?_
    refine wpAnyH_ready hra (by simp) (AllReadyH.cons (drop_get h2) (fun K hK => ?_) AllReadyH.nil)
    rw [if_pos (want _ _ g2)]
    unfold Oper.wp
    rw [hal]
    refine hK.out _ _ (below_alloc hS1 _) fun _ => ?_
    rw [hd1, hd2]
    exact fin _ _ hS1.size (Whole.new _ _ _) (below_alloc hS1 _)
  · rw [if_pos (want _ _ g2)]
    unfold Oper.wp
    rw [hal]
    refine hK.out _ _ (below_alloc hS _) fun hS1 => ?_
    refine wpAnyH_ready hrb (by simp) (AllReadyH.cons (drop_get h1) (fun K hK => ?_) AllReadyH.nil)
    rw [if_pos (want _ _ g1)]
    unfold Oper.wp
    rw [hd2, hrun' _ _]
    refine Calls.mono (hc _ hS1) ?_
    rintro e w1 ⟨rfl, hb⟩
    have hS2 := below_trans hS1 hb
    refine hK.out _ _ hS2 fun _ => ?_
    rw [hd1, Array.setIfInBounds_comm _ _ (Ne.symm hk), ← Act.put_comm a (.agg cs) _ (by intro d e1 e2; cases e1; cases e2; exact hd rfl)]
    exact fin _ _ hS.size ((Whole.new _ _ _).below hb (by simp)) hS2
end

end Quiet
end Go.Proofs.Ytdhjgenijieeaaa

/-! from Tree -/
namespace Go.Proofs.Ytdhjgenijieeaaa
namespace Quiet
open Go.RowKit Mem

section
variable {P : Program} {Q : Exit → Act → World → Prop} {S : World → Prop} {l : List Oper} {fuel : Nat} {listed : Array Bool} {a : Act} {w : World} {o1 o2 o3 : Oper} {r1 r2 r3 : List Oper}

theorem ready_two (k1 k2 : Nat) (h1 : l.drop k1 = o1 :: r1) (h2 : l.drop k2 = o2 :: r2) (hr : Region.ready .any l.toArray listed = [k1, k2])
    (w1 : Region.wanted o1 (yielded l.toArray a.tmps) = true) (w2 : Region.wanted o2 (yielded l.toArray a.tmps) = true)
    (g1 : ∀ K : Act → World → Prop, Shut (∀ a w, S w → wpAnyH P .any l.toArray Q S fuel (listed.setIfInBounds k1 true) a w → K a w) → Oper.wp P o1 a w K Q)
    (g2 : ∀ K : Act → World → Prop, Shut (∀ a w, S w → wpAnyH P .any l.toArray Q S fuel (listed.setIfInBounds k2 true) a w → K a w) → Oper.wp P o2 a w K Q) : wpAnyH P .any l.toArray Q S (fuel + 1) listed a w :=
  wpAnyH_ready hr (by simp) (AllReadyH.cons (drop_get h1) (fun K hK => by rw [if_pos w1]; exact g1 K (fun a w h1 h2 => hK.out a w h1 (fun _ => h2)))
    (AllReadyH.cons (drop_get h2) (fun K hK => by rw [if_pos w2]; exact g2 K (fun a w h1 h2 => hK.out a w h1 (fun _ => h2))) AllReadyH.nil))

theorem ready_three (k1 k2 k3 : Nat) (h1 : l.drop k1 = o1 :: r1) (h2 : l.drop k2 = o2 :: r2) (h3 : l.drop k3 = o3 :: r3) (hr : Region.ready .any l.toArray listed = [k1, k2, k3])
    (w1 : Region.wanted o1 (yielded l.toArray a.tmps) = true) (w2 : Region.wanted o2 (yielded l.toArray a.tmps) = true) (w3 : Region.wanted o3 (yielded l.toArray a.tmps) = true)
    (g1 : ∀ K : Act → World → Prop, Shut (∀ a w, S w → wpAnyH P .any l.toArray Q S fuel (listed.setIfInBounds k1 true) a w → K a w) → Oper.wp P o1 a w K Q)
    (g2 : ∀ K : Act → World → Prop, Shut (∀ a w, S w → wpAnyH P .any l.toArray Q S fuel (listed.setIfInBounds k2 true) a w → K a w) → Oper.wp P o2 a w K Q)
    (g3 : ∀ K : Act → World → Prop, Shut (∀ a w, S w → wpAnyH P .any l.toArray Q S fuel (listed.setIfInBounds k3 true) a w → K a w) → Oper.wp P o3 a w K Q) : wpAnyH P .any l.toArray Q S (fuel + 1) listed a w :=
  wpAnyH_ready hr (by simp) (AllReadyH.cons (drop_get h1) (fun K hK => by rw [if_pos w1]; exact g1 K (fun a w h1 h2 => hK.out a w h1 (fun _ => h2)))
    (AllReadyH.cons (drop_get h2) (fun K hK => by rw [if_pos w2]; exact g2 K (fun a w h1 h2 => hK.out a w h1 (fun _ => h2)))
    (AllReadyH.cons (drop_get h3) (fun K hK => by rw [if_pos w3]; exact g3 K (fun a w h1 h2 => hK.out a w h1 (fun _ => h2))) AllReadyH.nil)))

theorem cut_any {md : Region.Mode} {ops : Array Oper} (R : World → Prop) (hR : R w) (h : ∀ w', R w' → wpAnyH P md ops Q S fuel listed a w') : wpAnyH P md ops Q S fuel listed a w := h w hR

theorem new_block {B : Nat} {w1 w : World} (hS : Below B w1 w) (hB : B ≤ w.heap.size) (t : TypeId) (cs : Array Value) : Whole (w.alloc (.cells cs t)) w.heap.size t cs ∧ Below B w1 (w.alloc (.cells cs t)) := ⟨Whole.new _ _ _, hS.alloc hB _⟩
end

end Quiet
end Go.Proofs.Ytdhjgenijieeaaa

/-! from Block -/
namespace Go.Proofs.Ytdhjgenijieeaaa
namespace Chacha
open Go.ChangeShapes Go.WideShapes Go.ChangeAt Go.RowKit
open Num Mem Words Quiet

theorem Whole.farRow {w : World} {h g : Nat} {t : TypeId} {cs : Array Value} (H : Whole w h t cs) (hne : h ≠ g) (xs : Array Value) : Whole (w.setRow g xs) h t cs := (setRow_other w g h xs hne).trans H
theorem below_alloc' {B : Nat} {w w1 : World} (h : Below B w w1) (hB : B ≤ w1.heap.size) (o : Obj) : Below B w (w1.alloc o) := h.alloc hB o

theorem bytes_one (f : Nat → Nat) (n : Nat) : (byteCells f n).toArray.all (·.oneCell') = true := by
  simp [byteCells, Value.oneCell']

theorem bytes_each (f : Nat → Nat) (n : Nat) : ∀ v ∈ byteCells f n, v.oneCell' = true := by
  intro v hv
  obtain ⟨i, _, rfl⟩ := List.mem_map.1 hv
  rfl

theorem byteCells_splice (f g h : Nat → Nat) (n p m : Nat) (hpm : p + m ≤ n) (hh : ∀ i, i < n → h i = if p ≤ i ∧ i < p + m then g (i - p) else f i) : splice (byteCells f n) p (byteCells g m) = byteCells h n := by
  apply List.ext_getElem?
  intro i
  unfold splice
  by_cases h1 : i < p
  · rw [List.getElem?_append_left (by rw [List.length_take, byteCells_length]; omega), List.getElem?_take_of_lt h1, byteCells_get _ _ _ (by omega), byteCells_get _ _ _ (by omega), hh i (by omega), if_neg (by omega)]
  · rw [List.getElem?_append_right (by rw [List.length_take, byteCells_length]; omega), List.length_take, byteCells_length f n, Nat.min_eq_left (by omega)]
    by_cases h2 : i < p + m
    · rw [List.getElem?_append_left (by rw [byteCells_length]; omega), byteCells_get _ _ _ (by omega), byteCells_get _ _ _ (by omega), hh i (by omega), if_pos (by omega)]
    · rw [List.getElem?_append_right (by rw [byteCells_length]; omega), byteCells_length, List.getElem?_drop, show p + m + (i - p - m) = i by omega]
      by_cases h3 : i < n
      · rw [byteCells_get _ _ _ h3, byteCells_get _ _ _ h3, hh i h3, if_neg (by omega)]
      · rw [List.getElem?_eq_none (by rw [byteCells_length]; omega), List.getElem?_eq_none (by rw [byteCells_length]; omega)]

end Chacha
end Go.Proofs.Ytdhjgenijieeaaa

/-! from PolyBoth -/
namespace Go.Proofs.Ytdhjgenijieeaaa
namespace Poly
open Go.ChangeShapes Go.WideShapes Go.ChangeAt Go.RowKit
open Num Mem Words Chacha Quiet

/-- parts: a row of slices of bytes, each reading as a function -/
structure Parts where
  A : Nat → Option Addr
  n : Nat → Nat
  c : Nat → Nat
  f : Nat → Nat → Nat
end Poly
end Go.Proofs.Ytdhjgenijieeaaa

/-! from Behind -/
namespace Go.Proofs.Ytdhjgenijieeaaa
namespace Aead
open Go.ChangeShapes Go.WideShapes Go.ChangeAt Go.RowKit
open Num Mem Words Chacha Quiet Poly

theorem wpList_copy {P : Program} {ops : Array Oper} {rest : List Oper} {o : Oper} {a : Act} {w : World} {Q : Exit → Act → World → Prop} (hgd : o.guard = none) (d s : Operand) (dT sT : TypeId)
    (ho : o.op = .call { callee := .builtin .copy, args := #[d, s], argTypes := #[dT, sT] }) (elem : TypeId) (hu : P.underlying dT = some (.slice elem)) (hsz : (P.info? elem).map (·.size) = some 1)
    (g off dLen dCap : Nat) (ad : Addr) (sLen sCap : Nat) (hd : a.eval d = .slice (some ⟨g, off, none⟩) dLen dCap) (hs : a.eval s = .slice (some ad) sLen sCap)
    (cur : List Value) (t : TypeId) (hg : w.heap[g]? = some (.cells cur.toArray t (0, 0))) (cs : List Value) (hn : cs.length = Nat.min sLen dLen)
    (hsrc : ∀ j v, cs[j]? = some v → w.cell? (ad.add j) = some v)
    (hfit : off + cs.length ≤ cur.length) (h1 : ∀ v ∈ cs, v.oneCell' = true)
    (h : ∀ w', Hid (w'.heap[g]? = some (.cells (splice cur off cs).toArray t (0, 0))) → w.grownBy w' (some g) → wpList P ops Q rest (a.put o.dst (goInt cs.length)) w') : wpList P ops Q (o :: rest) a w :=
  wpList_step fun _ hK => step_copy_grown hgd d s dT sT ho elem hu hsz g off dLen dCap ad sLen sCap hd hs cur t hg cs hn hsrc hfit h1 fun w' h2 h3 => hK _ _ (h w' h2 h3)

end Aead
end Go.Proofs.Ytdhjgenijieeaaa

/-! from QuietB -/
namespace Go.Proofs.Ytdhjgenijieeaaa
namespace Quiet
open Go.RowKit Mem

section
variable {P : Program} {ops : Array Oper} {C : World → Prop} {Q : Act → Prop} {a : Act} {o : Oper} {rest : List Oper}

theorem q_take (v : Value) (hw : Region.wanted o (yielded ops a.tmps) = true) (hy : ∀ w, C w → (execOp a.eval o).run P w = .ok (.value v) w) (h : wpQuiet P ops C Q rest (a.put o.dst v)) : wpQuiet P ops C Q (o :: rest) a := by
  refine wpQuiet_step fun K hK => ?_
  rw [if_pos hw]
  refine ⟨v, fun w hw => ?_, hK _ h⟩
  unfold Oper.quietAt
  rw [hy w hw]
  exact ⟨rfl, rfl⟩

theorem q_pass (hw : Region.wanted o (yielded ops a.tmps) = false) (h : wpQuiet P ops C Q rest (a.put o.dst undef)) : wpQuiet P ops C Q (o :: rest) a := by
  refine wpQuiet_step fun K hK => ?_
  rw [if_neg (by rw [hw]; exact Bool.false_ne_true)]
  exact hK _ h

theorem q_call (v : Value) (f : FuncId) (args : Array Value) (hw : Region.wanted o (yielded ops a.tmps) = true) (hr : ∀ w, (execOp a.eval o).run P w = .ok (.enter f args) w)
    (hc : ∀ w, C w → Calls P f args w fun e w' => e = .returned v ∧ C w') (h : wpQuiet P ops C Q rest (a.put o.dst v)) : wpQuiet P ops C Q (o :: rest) a := by
  refine wpQuiet_step fun K hK => ?_
  rw [if_pos hw]
  refine ⟨v, fun w hw => ?_, hK _ h⟩
  unfold Oper.quietAt
  rw [hr w]
  exact ⟨rfl, hc w hw⟩

/-- the beginning: the class is what lies over this world -/
theorem q_start {id : Nat} {Q : Exit → Act → World → Prop} {w : World} {l : List Oper} (hm : P.follows .mixedOrders = true) (hB : Region.lexB .any l.toArray = true)
    (h : wpQuiet P l.toArray (fun x => Below w.heap.size w x) (fun a' => ∀ w', Below w.heap.size w w' → Q .normal a' w') l a) : (Code.region id l.toArray true).wp P Q a w :=
  region_class hm hB (Below.drew (Below.refl _ _)) h

theorem run_load_in {w : World} (ty : TypeId) (x : Operand) (ho : o.op = .load ty x) (g : Nat) (hx : a.eval x = .pointer (some ⟨g, 0, none⟩)) {t : TypeId} (cs : Array Value) (n : Nat) (hn : cs.size = n) {d : TypeDesc} (hg : Whole w g t cs)
    (hu : P.underlying ty = some d) (hd : (match d with | .struct _ | .array _ _ => true | _ => false) = true) (hi : (P.info? ty).map (·.size) = some n) : (execOp a.eval o).run P w = .ok (.value (.agg cs)) w :=
  run_load_op ty x ho g hx hg hu hd (by rw [hn]; exact hi)
end

end Quiet
end Go.Proofs.Ytdhjgenijieeaaa

/-! from AliveThree -/
namespace Go.Proofs.Ytdhjgenijieeaaa
namespace Poly
open Go.ChangeShapes Go.WideShapes Go.ChangeAt Go.RowKit
open Num Mem Words Chacha Quiet
open Extern.Stop (cell)

theorem byteCells_cell (f : Nat → Nat) (hf : ∀ i, f i < 256) (n : Nat) : byteCells f n = ((List.range n).map fun i => UInt8.ofNat (f i)).map cell := by
  unfold byteCells
  rw [List.map_map]
  refine List.map_congr_left fun i _ => ?_
  have := hf i
  simp only [Function.comp_apply, cell]
  congr 1
  rw [UInt8.toNat_ofNat', Nat.mod_eq_of_lt this]
  rfl

/-- '==' of two arrays of bytes -/
theorem run_eql_arr {P : Program} (t e : TypeId) (n : Nat) (ht : P.underlying t = some (.array n e)) (he : P.underlying e = some (.int .u8)) (hsz : ∀ w, (sizeOf e).run P w = .ok 1 w)
    (f g : Nat → Nat) (hf : ∀ i, f i < 256) (hg : ∀ i, g i < 256) (r : Bool) (hr : r = true ↔ ∀ i, i < n → f i = g i) (w : World) :
    (Op.equalIn 10000 t (.agg (byteCells f n).toArray) (.agg (byteCells g n).toArray)).run P w = .ok r w := by
  rw [byteCells_cell f hf, byteCells_cell g hg, run_equalIn_bytes w 9998 t e n ht he hsz _ _ (by simp) (by simp)]
  congr 1
  rw [Bool.eq_iff_iff, hr, beq_iff_eq]
  constructor
  · intro h i hi
    have h3 := congrArg (fun l : List UInt8 => l[i]?) h
    simp only [List.getElem?_map, List.getElem?_range hi, Option.map_some, Option.some.injEq] at h3
    have h4 := congrArg UInt8.toNat h3
    simp only [UInt8.toNat_ofNat'] at h4
    have := hf i
    have := hg i
    omega
  · intro h
    exact List.map_congr_left fun i hi => by rw [h i (List.mem_range.1 hi)]

theorem size_u8 (w : World) : (sizeOf 5).run Try.prog w = .ok 1 w := by kernel_rfl

/-- a load behind a guard that is met -/
theorem wpList_load_row_if {P : Program} {ops : Array Oper} {rest : List Oper} {o : Oper} {a : Act} {w : World} {Q : Exit → Act → World → Prop} (hw : Region.wanted o (yielded ops a.tmps) = true) (ty : TypeId) (x : Operand) (ho : o.op = .load ty x)
    (g : Nat) (hx : a.eval x = .pointer (some ⟨g, 0, none⟩)) (t : TypeId) (cs : List Value) (d : TypeDesc) (hg : Whole w g t cs.toArray)
    (hu : P.underlying ty = some d) (hd : d.isRow = true) (hi : (P.info? ty).map (·.size) = some cs.length)
    (h : wpList P ops Q rest (a.put o.dst (.agg cs.toArray)) w) : wpList P ops Q (o :: rest) a w :=
  wpList_step fun _ hK => by
    rw [if_pos hw]
    exact wp_load_mid ty x ho g 0 hx cs d (whole_range hg) hu hd hi (hK _ _ h)

end Poly
end Go.Proofs.Ytdhjgenijieeaaa

/-! from Apart -/
namespace Go.Proofs.Ytdhjgenijieeaaa
namespace Mem
open Go.RowKit

/-- two slices that lie in blocks of their own -/
def Apart (A A' : Option Addr) : Prop := ∀ x x', A = some x → A' = some x' → x.block ≠ x'.block
theorem Apart.symm {A A' : Option Addr} (h : Apart A A') : Apart A' A := fun g g' e e' k => h g' g e' e k.symm
theorem Apart.nil (A : Option Addr) : Apart none A := fun _ _ e => by cases e

theorem own_at {w : World} {B t k c : Nat} {A : Option Addr} {f : Nat → Nat} (h : Own w B t A k c f) : A = none ∨ ∃ g, A = some ⟨g, 0, none⟩ ∧ B ≤ g ∧ g < w.heap.size := by
  rcases h.2 with ⟨e, _⟩ | ⟨g, cap, cur, e, hg, hh, _⟩
  · injection e with e1
    exact .inl e1
  · injection e with e1
    refine .inr ⟨g, e1, hg, ?_⟩
    rcases Nat.lt_or_ge g w.heap.size with k | k
    · exact k
    · rw [Array.getElem?_eq_none k] at hh
      cases hh

/-- what grows elsewhere leaves a row as it is -/
theorem Own.grown {w w' : World} {B t n c k c' : Nat} {A A' : Option Addr} {f : Nat → Nat} (h : Own w B t A' n c' f) (hg : w.grownBy w' (Value.slice A k c).ownBlock) (ha : Apart A A') : Own w' B t A' n c' f := by
  refine ⟨h.1, ?_⟩
  rcases h.2 with ⟨e, z⟩ | ⟨g, cap, cur, e, hgB, hh, r⟩
  · exact .inl ⟨e, z⟩
  · refine .inr ⟨g, cap, cur, e, hgB, ?_, r⟩
    have hlt : g < w.heap.size := by
      rcases Nat.lt_or_ge g w.heap.size with k | k
      · exact k
      · rw [Array.getElem?_eq_none k] at hh
        cases hh
    refine (hg.block g hlt ?_).trans hh
    intro e2
    have eA : A' = some ⟨g, 0, none⟩ := by injection e
    rcases A with _ | x
    · simp [Value.ownBlock] at e2
    · simp [Value.ownBlock] at e2
      exact ha x _ rfl eA e2.symm

theorem Apart.moved {w : World} {B t k c k' c' n c'' : Nat} {A A' A2 : Option Addr} {f : Nat → Nat} {B' t' : Nat} {f2 : Nat → Nat} {w' : World} (hat : (Value.slice A2 k' c').ownBlock = (Value.slice A k c).ownBlock ∨ (Value.slice A2 k' c').ownBlock = some w.heap.size)
    (ha : Apart A A') (h : Own w B t A' n c'' f) (_ : Own w' B' t' A2 k' c' f2) : Apart A2 A' := by
  rintro x x' rfl hx'
  rcases own_at h with h0 | ⟨g2, e2, _, hlt⟩
  · rw [h0] at hx'
    cases hx'
  · rw [e2] at hx'
    injection hx' with hx'
    subst hx'
    rcases hat with e | e
    · rcases A with _ | y
      · simp [Value.ownBlock] at e
      · simp [Value.ownBlock] at e
        rw [e]
        exact ha y _ rfl e2
    · simp [Value.ownBlock] at e
      rw [e]
      show w.heap.size ≠ g2
      omega

section
variable {P : Program}
theorem wpList_catAt {ops : Array Oper} {rest : List Oper} {o : Oper} {a : Act} {Q : Exit → Act → World → Prop} {W w : World} {B k c : Nat} {A : Option Addr} {f g T : Nat → Nat} (hgd : o.guard = none) (s x : Operand) (t e : TypeId) (z : Value) (by_ : Nat)
    (ht : P.underlying t = some (.slice e)) (hinfo : (P.info? e).map (fun i => (i.zero, i.size, i.bytes)) = some (some z, 1, by_)) (hz : z.cells.size = 1)
    (ho : o.op = .call { callee := .builtin .append, args := #[s, x], argTypes := #[t, t] })
    (hs : a.eval s = .slice A k c) (own : Own w B e A k c f) (bel : Below B W w) (hB : B ≤ w.heap.size)
    (m cx b off : Nat) (hx : a.eval x = .slice (some ⟨b, off, none⟩) m cx) (hy : ∀ i, i < m → w.cell? ⟨b, off + i, none⟩ = some (.int .u8 (g i : Nat))) (hk : (k + m) * by_ ≤ 140737488355328) (hk2 : k + m ≤ 140737488355328)
    (hT : ∀ i, i < k + m → T i = if i < k then f i else g (i - k))
    (h : ∀ A' c' w', Own w' B e A' (k + m) c' T → Below B W w' → B ≤ w'.heap.size → w.grownBy w' (Value.slice A k c).ownBlock → ((Value.slice A' (k + m) c').ownBlock = (Value.slice A k c).ownBlock ∨ (Value.slice A' (k + m) c').ownBlock = some w.heap.size) → wpList P ops Q rest (a.put o.dst (.slice A' (k + m) c')) w') :
    wpList P ops Q (o :: rest) a w :=
  wpList_plain hgd fun K hK => wp_cat s x t e z by_ ht hinfo hz ho hs own bel hB ⟨b, off, none⟩ m cx hx (byteCells g m) (byteCells_length _ _) (rd_src hy) (by
      intro u hu
      simp [byteCells] at hu
      obtain ⟨i, _, rfl⟩ := hu
      rfl) hk hk2 fun A' c' w' h1 h2 h3 h4 h5 => hK _ _ (h A' c' w' (by
      rw [byteCells_append, byteCells_congr (g := T) (fun i hi => (hT i hi).symm)] at h1
      exact h1) h2 h3 h4 h5)

/-- a slice of m bytes that reads as g, as a source of append -/
def Src (w : World) (A : Option Addr) (m c : Nat) (g : Nat → Nat) : Prop := (A = none ∧ m = 0 ∧ c = 0) ∨ ∃ ad, A = some ad ∧ ∀ (j : Nat) (v : Value), (byteCells g m)[j]? = some v → w.cell? (ad.add j) = some v

theorem wpList_catFrom {ops : Array Oper} {rest : List Oper} {o : Oper} {a : Act} {Q : Exit → Act → World → Prop} {W w : World} {B k c : Nat} {A : Option Addr} {f g T : Nat → Nat} (hgd : o.guard = none) (s x : Operand) (t e : TypeId) (z : Value) (by_ : Nat)
    (ht : P.underlying t = some (.slice e)) (hinfo : (P.info? e).map (fun i => (i.zero, i.size, i.bytes)) = some (some z, 1, by_)) (hz : z.cells.size = 1)
    (ho : o.op = .call { callee := .builtin .append, args := #[s, x], argTypes := #[t, t] })
    (hs : a.eval s = .slice A k c) (own : Own w B e A k c f) (bel : Below B W w) (hB : B ≤ w.heap.size)
    (m cx : Nat) (A2 : Option Addr) (hx : a.eval x = .slice A2 m cx) (src : Src w A2 m cx g) (hk : (k + m) * by_ ≤ 140737488355328) (hk2 : k + m ≤ 140737488355328)
    (hT : ∀ i, i < k + m → T i = if i < k then f i else g (i - k))
    (h : ∀ A' c' w', Own w' B e A' (k + m) c' T → Below B W w' → B ≤ w'.heap.size → w.grownBy w' (Value.slice A k c).ownBlock → ((Value.slice A' (k + m) c').ownBlock = (Value.slice A k c).ownBlock ∨ (Value.slice A' (k + m) c').ownBlock = some w.heap.size) → wpList P ops Q rest (a.put o.dst (.slice A' (k + m) c')) w') :
    wpList P ops Q (o :: rest) a w := by
  rcases src with ⟨rfl, rfl, rfl⟩ | ⟨ad, rfl, hy⟩
  · obtain ⟨i0, hi, _⟩ := info_parts hinfo
    refine wpList_append_own_none hgd s x t ho B e i0 1 ht hi (.slice A k c) k (byteCells f k) hs own hx ?_
    exact h A c w (Own.congr own fun i hi => by rw [hT i (by omega), if_pos (by omega)]) bel hB (World.grownBy.refl _ _) (.inl rfl)
  · exact wpList_plain hgd fun K hK => wp_cat s x t e z by_ ht hinfo hz ho hs own bel hB ad m cx hx (byteCells g m) (byteCells_length _ _) hy (by
      intro u hu
      simp [byteCells] at hu
      obtain ⟨i, _, rfl⟩ := hu
      rfl) hk hk2 fun A' c' w' h1 h2 h3 h4 h5 => hK _ _ (h A' c' w' (by
      rw [byteCells_append, byteCells_congr (g := T) (fun i hi => (hT i hi).symm)] at h1
      exact h1) h2 h3 h4 h5)
end

theorem src_own {w : World} {B t m c : Nat} {A : Option Addr} {g : Nat → Nat} (h : Own w B t A m c g) : Src w A m c g := by
  rcases own_at h with h0 | ⟨b, rfl, _⟩
  · subst h0
    rcases h.2 with ⟨e, z⟩ | ⟨b, cap, cur, e, _⟩
    · injection e with _ e2 e3
      exact .inl ⟨rfl, z, e3⟩
    · injection e with e1
      cases e1
  · refine .inr ⟨_, rfl, ?_⟩
    rcases h.rd with h0 | ⟨b', off, e, _, hc⟩
    · subst h0
      intro j v hj
      simp [byteCells] at hj
    · injection e with e
      injection e with e1 e2
      subst e1
      subst e2
      exact rd_src hc
theorem src_rd {w : World} {m c : Nat} {A : Option Addr} {g : Nat → Nat} (h : Rd w A m g) (hn : A = none → m = 0 ∧ c = 0) : Src w A m c g := by
  rcases A with _ | ad
  · exact .inl ⟨rfl, hn rfl⟩
  · refine .inr ⟨ad, rfl, ?_⟩
    rcases h with h0 | ⟨b', off, e, _, hc⟩
    · subst h0
      intro j v hj
      simp [byteCells] at hj
    · injection e with e
      subst e
      exact rd_src hc
/-- a row that has just been laid -/
theorem own_new {w : World} {B t n : Nat} {cs : Array Value} {f : Nat → Nat} (hB : B ≤ w.heap.size) (hc : cs = (byteCells f n).toArray) (hn : n ≤ 140737488355328) : Own (w.alloc (.cells cs t)) B t (some ⟨w.heap.size, 0, none⟩) n n f := by
  subst hc
  refine ⟨by rw [byteCells_length, Nat.mul_one], .inr ⟨w.heap.size, n, (byteCells f n).toArray, rfl, hB, Whole.new _ _ _, Nat.le_refl _, by simp only [maxLen]; omega, by rw [List.size_toArray, byteCells_length, Nat.mul_one], ?_⟩⟩
  rw [Nat.mul_one, List.take_of_length_le (by rw [byteCells_length]; omega)]

end Mem
end Go.Proofs.Ytdhjgenijieeaaa

/-! from AliveFour -/
namespace Go.Proofs.Ytdhjgenijieeaaa
namespace Aead
open Go.ChangeShapes Go.WideShapes Go.ChangeAt Go.RowKit
open Num Mem Words Chacha Quiet Poly

theorem own_max {w : World} {B t k c : Nat} {A : Option Addr} {f : Nat → Nat} (h : Own w B t A k c f) : c ≤ 9223372036854775807 := by
  rcases h.2 with ⟨e, _⟩ | ⟨g, cap, cur, e, _, _, _, hcl, _⟩
  · injection e with _ _ e3
    omega
  · injection e with _ _ e3
    rw [e3]
    simpa [maxLen] using hcl

theorem rd_marked {w : World} {g n : Nat} {t : TypeId} {cs : Array Value} {fz : Nat × Nat} {f : Nat → Nat} (hg : g = w.heap.size) (hc : cs = (byteCells f n).toArray) : Rd (w.alloc (.cells cs t fz)) (some ⟨g, 0, none⟩) n f := by
  subst hg
  subst hc
  have h : (w.alloc (.cells (byteCells f n).toArray t fz)).heap[w.heap.size]? = some (.cells (byteCells f n).toArray t fz) := heap_alloc_new w _
  refine .inr ⟨w.heap.size, 0, rfl, by simp, fun i hi => ?_⟩
  rw [cell_of_row _ _ _ _ t fz h, Nat.zero_add, List.getElem?_toArray, byteCells_get f n i hi]

end Aead
end Go.Proofs.Ytdhjgenijieeaaa

/-! from Arr -/
namespace Go.Proofs.Ytdhjgenijieeaaa
namespace Arr
open Go.ChangeShapes Go.WideShapes Go.RowKit Mem

section
variable {H : Type} {enc : TypeId × Value → H} {P : Program} {W : World} {base : Nat} {spare : Nat → Bool} {held : Bool}

theorem open_bytes {t e : TypeId} (n : Nat) {v : Value} {d : DataW H} {p : List MemPlace} {r : Reach} {b0 : Nat} (ht : P.underlying t = some (.array n e)) (he : P.underlying e = some (.int .u8)) (hce : P.cellsOf e = 1) (hct : P.cellsOf t = n)
    (hok : Value.okWide P W r b0 t v) (h : DataW.Trod enc P W base spare held t v d p) : ∃ f : Nat → Nat, (∀ i, f i < 256) ∧ v = .agg (byteCells f n).toArray := by
  simp only [Value.okWide, ht] at hok
  obtain ⟨cs, rfl, h2, _⟩ := hok
  rw [hct] at h2
  obtain ⟨fuel, hf⟩ := h
  obtain ⟨xs, m, rfl, _, _, hl, hx⟩ := DataW.trod_array ht hf
  have key : ∀ i, i < n → ∃ a : Nat, cs.toList[i]? = some (.int .u8 (a : Nat)) ∧ a < 256 := by
    intro i hi
    have hxi := hx i hi
    rw [hce, List.getElem?_eq_getElem (by omega)] at hxi
    have e1 : ((Value.agg cs).cells.toList.drop (i * 1)).take 1 = [(cs[i]'(by omega) : Value)] := by
      simp only [Value.cells, Nat.mul_one]
      rw [List.drop_eq_getElem_cons (by simpa using (by omega : i < cs.size))]
      simp
    rw [e1] at hxi
    obtain ⟨a, ea, _, wa⟩ := DataW.trod_int he hxi
    obtain ⟨b, rfl, hb⟩ := nat_u8 wa
    refine ⟨b, ?_, hb⟩
    rw [Array.getElem?_toList, Array.getElem?_eq_getElem (by omega)]
    injection ea with ea
    rw [ea]
  refine ⟨fun i => match cs.toList[i]? with | some (.int .u8 a) => a.toNat % 256 | _ => 0, ?_, ?_⟩
  · intro i
    dsimp only
    split
    · exact Nat.mod_lt _ (by omega)
    · omega
  · congr 1
    apply Array.ext'
    apply List.ext_getElem?
    intro i
    by_cases hi : i < n
    · obtain ⟨a, ha, hlt⟩ := key i hi
      rw [byteCells_get _ _ _ hi]
      rw [ha]
      congr 2
      show (a : Int) = ((((a : Int).toNat % 256 : Nat)) : Int)
      omega
    · rw [List.getElem?_eq_none (by simp; omega), List.getElem?_eq_none (by rw [byteCells_length]; omega)]
end

end Arr
end Go.Proofs.Ytdhjgenijieeaaa

/-! from StampNum -/
namespace Go.Proofs.Ytdhjgenijieeaaa
namespace Stamp
open Num Mem Words

theorem byteAt_le (f : Nat → Nat) (hf : ∀ i, f i < 256) (k i : Nat) (h : i < k) : byteAt (le f 0 k) i = f i := by
  induction k with
  | zero => omega
  | succ k ih =>
    unfold byteAt at ih ⊢
    rw [show le f 0 (k + 1) = le f 0 k + f (0 + k) * 2 ^ (8 * k) from rfl, Nat.zero_add]
    by_cases e : i = k
    · subst e
      rw [Nat.add_mul_div_right _ _ (Nat.pow_pos (by omega)), Nat.div_eq_of_lt (le_lt hf 0 i), Nat.zero_add, Nat.mod_eq_of_lt (hf i)]
    · have hik : i < k := by omega
      rw [← ih hik]
      have e2 : 8 * k = 8 * i + (8 + 8 * (k - i - 1)) := by omega
      rw [e2, Nat.pow_add, Nat.mul_left_comm, Nat.add_mul_div_left _ _ (Nat.pow_pos (by omega)), Nat.pow_add, show (2 : Nat) ^ 8 = 256 from rfl, Nat.mul_left_comm, Nat.add_mul_mod_self_left]

theorem byteAt_be (f : Nat → Nat) (hf : ∀ i, f i < 256) (p k i : Nat) (h : i < k) : byteAt (be f p k) (k - 1 - i) = f (p + i) := by
  rw [be_le, byteAt_le _ (fun j => hf _) k _ (by omega)]
  congr 1
  omega

theorem be_inj (f g : Nat → Nat) (hf : ∀ i, f i < 256) (hg : ∀ i, g i < 256) (p k : Nat) (h : be f p k = be g p k) (i : Nat) (hi : i < k) : f (p + i) = g (p + i) := by
  rw [← byteAt_be f hf p k i hi, ← byteAt_be g hg p k i hi, h]

/-- what a label's bytes tell as one number -/
def whole (f : Nat → Nat) : Nat := be f 0 12

theorem be_add (f : Nat → Nat) (p a b : Nat) : be f p (a + b) = be f p a * 2 ^ (8 * b) + be f (p + a) b := by
  induction b with
  | zero => simp [be]
  | succ b ih =>
    rw [← Nat.add_assoc, show be f p (a + b + 1) = be f p (a + b) * 256 + f (p + (a + b)) from rfl, ih,
      show be f (p + a) (b + 1) = be f (p + a) b * 256 + f (p + a + b) from rfl, pow8_succ, Nat.add_mul, Nat.mul_assoc, Nat.mul_comm (2 ^ (8 * b)) 256,
      Nat.add_assoc p a b]
    omega

theorem whole_eq (f : Nat → Nat) : whole f = be f 0 8 * 4294967296 + be f 8 4 := by
  unfold whole
  rw [show (12 : Nat) = 8 + 4 from rfl, be_add]

theorem whole_inj (f g : Nat → Nat) (hf : ∀ i, f i < 256) (hg : ∀ i, g i < 256) : whole f = whole g ↔ ∀ i, i < 12 → f i = g i := by
  constructor
  · intro h i hi
    have := be_inj f g hf hg 0 12 h i hi
    rwa [Nat.zero_add] at this
  · intro h
    exact be_congr 12 fun i hi => by rw [Nat.zero_add]; exact h i hi

/-- where two rows part, the greater byte makes the greater number -/
theorem be_part (f g : Nat → Nat) (hg : ∀ i, g i < 256) (p k n : Nat) (hk : k < n) (e : be f p k = be g p k) (h : g (p + k) < f (p + k)) : be g p n < be f p n := by
  obtain ⟨m, rfl⟩ : ∃ m, n = (k + 1) + m := ⟨n - (k + 1), by omega⟩
  rw [be_add g p (k + 1) m, be_add f p (k + 1) m, show be f p (k + 1) = be f p k * 256 + f (p + k) from rfl, show be g p (k + 1) = be g p k * 256 + g (p + k) from rfl, e]
  have h1 := be_lt hg (p + (k + 1)) m
  generalize be g (p + (k + 1)) m = z at h1 ⊢
  generalize be f (p + (k + 1)) m = y
  generalize be g p k * 256 = x
  generalize 2 ^ (8 * m) = P at h1 ⊢
  have h2 : (x + g (p + k) + 1) * P ≤ (x + f (p + k)) * P := Nat.mul_le_mul_right _ (by omega)
  rw [Nat.add_mul (x + g (p + k)), Nat.one_mul] at h2
  omega

/-- how strings of as many bytes stand -/
theorem less_be (f g : Nat → Nat) (hf : ∀ i, f i < 256) (hg : ∀ i, g i < 256) (n : Nat) : ∀ p, Op.bytesLess ((List.range' p n).map fun i => UInt8.ofNat (f i)) ((List.range' p n).map fun i => UInt8.ofNat (g i)) = decide (be f p n < be g p n) := by
  induction n with
  | zero =>
    intro p
    simp [Op.bytesLess, be]
  | succ n ih =>
    intro p
    rw [List.range'_succ, List.map_cons, List.map_cons]
    rw [show ∀ (a b : UInt8) (x y : List UInt8), Op.bytesLess (a :: x) (b :: y) = (decide (a < b) || (a == b && Op.bytesLess x y)) from fun _ _ _ _ => rfl]
    rw [ih (p + 1), be_step, be_step]
    have h1 := be_lt hf (p + 1) n
    have h2 := be_lt hg (p + 1) n
    have e1 : (UInt8.ofNat (f p) < UInt8.ofNat (g p)) ↔ f p < g p := by
      rw [UInt8.lt_iff_toNat_lt, UInt8.toNat_ofNat', UInt8.toNat_ofNat', Nat.mod_eq_of_lt (hf p), Nat.mod_eq_of_lt (hg p)]
    have e2 : (UInt8.ofNat (f p) = UInt8.ofNat (g p)) ↔ f p = g p := by
      rw [← UInt8.toNat_inj, UInt8.toNat_ofNat', UInt8.toNat_ofNat', Nat.mod_eq_of_lt (hf p), Nat.mod_eq_of_lt (hg p)]
    generalize 2 ^ (8 * n) = P at h1 h2 ⊢
    rw [Bool.eq_iff_iff]
    simp only [Bool.or_eq_true, Bool.and_eq_true, decide_eq_true_eq, beq_iff_eq, e1, e2]
    generalize be f (p + 1) n = y at h1 ⊢
    generalize be g (p + 1) n = z at h2 ⊢
    rcases Nat.lt_trichotomy (f p) (g p) with h | h | h
    · have : (f p + 1) * P ≤ g p * P := Nat.mul_le_mul_right _ (by omega)
      rw [Nat.add_mul, Nat.one_mul] at this
      omega
    · rw [h]
      omega
    · have : (g p + 1) * P ≤ f p * P := Nat.mul_le_mul_right _ (by omega)
      rw [Nat.add_mul, Nat.one_mul] at this
      omega

theorem strOf_list (f : Nat → Nat) (n : Nat) : (strOf f n).toList = (List.range' 0 n).map fun i => UInt8.ofNat (f i) := by
  rw [ByteArray.toList_eq]
  simp [strOf, List.range_eq_range']

theorem strings_beq (s t : ByteArray) : (s.toList == t.toList) = decide (s = t) := by
  rw [ByteArray.toList_eq, ByteArray.toList_eq]
  rcases s with ⟨a⟩
  rcases t with ⟨b⟩
  rw [Bool.eq_iff_iff, beq_iff_eq, decide_eq_true_eq]
  constructor
  · intro h
    congr 1
    exact Array.toList_inj.1 h
  · intro h
    rw [ByteArray.mk.injEq] at h
    rw [h]

/-- 'a > b' of two strings of as many bytes -/
theorem gtr_be (f g : Nat → Nat) (hf : ∀ i, f i < 256) (hg : ∀ i, g i < 256) (n : Nat) : (!(Op.bytesLess (strOf f n).toList (strOf g n).toList || (strOf f n).toList == (strOf g n).toList)) = decide (be g 0 n < be f 0 n) := by
  rw [strings_beq, strOf_list, strOf_list, less_be f g hf hg]
  have e : strOf f n = strOf g n ↔ be f 0 n = be g 0 n := by
    rw [strOf_eq_iff hf hg]
    constructor
    · rintro ⟨_, h⟩
      exact be_congr n fun i hi => by rw [Nat.zero_add]; exact h i hi
    · intro h
      refine ⟨rfl, fun i hi => ?_⟩
      have := be_inj f g hf hg 0 n h i hi
      rwa [Nat.zero_add] at this
  rw [Bool.eq_iff_iff]
  simp only [Bool.not_eq_true', Bool.or_eq_false_iff, decide_eq_false_iff_not, decide_eq_true_eq, e]
  omega

/-! ### labels -/
/-- the seconds that a label tells, and what it tells of the milliseconds left -/
def secs (t : Nat) : Nat := 4611686018427387914 + t / 1000
def left (t : Nat) : Nat := t % 1000 * 1000000

def label (t i : Nat) : Nat := if i < 8 then byteAt (secs t) (7 - i) else byteAt (left t) (11 - i)
theorem label_lt (t i : Nat) : label t i < 256 := by
  unfold label
  split <;> exact byteAt_lt _ _

theorem label_secs (t : Nat) (h : t ≤ 1099511627776) : be (label t) 0 8 = secs t := by
  rw [be_congr (f := label t) (g := fun i => byteAt (secs t) (8 - 1 - i)) (p := 0) (q := 0) 8 (fun i hi => by
    unfold label
    rw [if_pos (by omega)])]
  exact be_byteAt _ 8 (by unfold secs; omega)

theorem label_left (t : Nat) : be (label t) 8 4 = left t := by
  rw [be_congr (f := label t) (g := fun i => byteAt (left t) (4 - 1 - i)) (p := 8) (q := 0) 4 (fun i hi => by
    unfold label
    rw [if_neg (by omega)]
    congr 1
    omega)]
  exact be_byteAt _ 4 (by unfold left; omega)

/-- the answer of a writing: the label, or noughts and the error's number -/
def right (t : Int) : Prop := 0 ≤ t ∧ t ≤ 1099511627776
instance (t : Int) : Decidable (right t) := by unfold right; exact inferInstance
def wF (t : Int) (i : Nat) : Nat := if right t then label t.toNat i else 0
def wE (t : Int) : Nat := if right t then 0 else 1
theorem wF_lt (t : Int) (i : Nat) : wF t i < 256 := by
  unfold wF
  split
  · exact label_lt _ _
  · omega
/-- the time that a row tells, and whether it is a label -/
def timeOf (f : Nat → Nat) : Nat := (be f 0 8 - 4611686018427387914) * 1000 + be f 8 4 / 1000000
def IsLabel (f : Nat → Nat) : Prop := 4611686018427387914 ≤ be f 0 8 ∧ be f 0 8 - 4611686018427387914 ≤ 1099511627 ∧ be f 8 4 % 1000000 = 0 ∧ be f 8 4 / 1000000 < 1000 ∧ timeOf f ≤ 1099511627776
instance (f : Nat → Nat) : Decidable (IsLabel f) := by unfold IsLabel; exact inferInstance

/-- the answer of a reading: the time and the error's number -/
def readV (f : Nat → Nat) : Nat := if IsLabel f then timeOf f else 0
def readE (f : Nat → Nat) : Nat := if IsLabel f then 0 else 3

theorem label_is (t : Nat) (h : t ≤ 1099511627776) : IsLabel (label t) ∧ timeOf (label t) = t := by
  have e : timeOf (label t) = t := by
    unfold timeOf
    rw [label_secs t h, label_left]
    unfold secs left
    omega
  refine ⟨⟨?_, ?_, ?_, ?_, by rw [e]; exact h⟩, e⟩
  · rw [label_secs t h]
    unfold secs
    omega
  · rw [label_secs t h]
    unfold secs
    omega
  · rw [label_left]
    unfold left
    omega
  · rw [label_left]
    unfold left
    omega

/-- a row that is a label is the label of its time -/
theorem is_label (f : Nat → Nat) (hf : ∀ i, f i < 256) (h : IsLabel f) : ∀ i, i < 12 → label (timeOf f) i = f i := by
  obtain ⟨h1, h2, h3, h4, h5⟩ := h
  refine (whole_inj _ _ (label_lt _) hf).1 ?_
  rw [whole_eq, whole_eq, label_secs _ h5, label_left]
  unfold secs left timeOf
  generalize be f 0 8 = S at *
  generalize be f 8 4 = L at *
  have e1 : ((S - 4611686018427387914) * 1000 + L / 1000000) / 1000 = S - 4611686018427387914 := by omega
  have e2 : ((S - 4611686018427387914) * 1000 + L / 1000000) % 1000 = L / 1000000 := by omega
  rw [e1, e2]
  omega

/-- and a row that is the label of a time is a label -/
theorem label_of (f : Nat → Nat) (t : Nat) (ht : t ≤ 1099511627776) (h : ∀ i, i < 12 → label t i = f i) : IsLabel f ∧ timeOf f = t := by
  have e1 : be f 0 8 = be (label t) 0 8 := be_congr 8 fun i hi => (h _ (by omega)).symm
  have e2 : be f 8 4 = be (label t) 8 4 := be_congr 4 fun i hi => (h _ (by omega)).symm
  have := label_is t ht
  unfold IsLabel timeOf at this ⊢
  rw [e1, e2]
  exact this

/-- labels stand as their times do -/
theorem label_order (s t : Nat) (hs : s ≤ 1099511627776) (ht : t ≤ 1099511627776) : whole (label s) < whole (label t) ↔ s < t := by
  rw [whole_eq, whole_eq, label_secs s hs, label_secs t ht, label_left, label_left]
  unfold secs left
  omega

end Stamp
end Go.Proofs.Ytdhjgenijieeaaa
