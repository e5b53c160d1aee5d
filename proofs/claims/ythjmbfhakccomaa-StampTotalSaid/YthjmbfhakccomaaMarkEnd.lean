/- The call end of package poly: what is left of a mark on its way, and the key's other half. -/
import Derived.Test.YthjmbfhakccomaaMark
import Derived.Laws.Externs
namespace Go.Proofs.Ythjmbfhakccomaa
namespace Poly
open Go.ChangeShapes Go.WideShapes Go.ChangeAt Go.RowKit
open Num Mem Words PolyN Chacha Quiet

theorem or_u64 (x y i : Nat) (hx : x % 2 ^ i = 0) (hy : y < 2 ^ i) (hx2 : x < 18446744073709551616) (hy2 : y < 18446744073709551616) : bits .or .u64 (y : Int) (x : Int) = ((y + x : Nat) : Int) := by
  rw [u64_or_nat _ _ hy2 hx2, Nat.or_comm, nat_join i x y hx hy, Nat.add_comm]

theorem low_bits (a b c V : Nat) (ha : a < 67108864) (hb : b < 67108864) (_hc : c < 67108864) (d : Nat) (hV : V = a + b * 67108864 + c * 4503599627370496 + d * 302231454903657293676544) :
    bits .or .u64 (bits .or .u64 (a : Int) ((b : Int) * 67108864)) (IntKind.u64.wrap ((c : Int) * 4503599627370496)) = ((V % 18446744073709551616 : Nat) : Int) := by
  have e1 : ((b : Int) * 67108864) = ((b * 67108864 : Nat) : Int) := by rw [Int.natCast_mul]; rfl
  have e2 : IntKind.u64.wrap ((c : Int) * 4503599627370496) = ((c * 4503599627370496 % 18446744073709551616 : Nat) : Int) := by
    rw [show ((c : Int) * 4503599627370496) = ((c * 4503599627370496 : Nat) : Int) by rw [Int.natCast_mul]; rfl, wrap64_nat]
  rw [e1, e2, or_u64 (b * 67108864) a 26 (by omega) ha (by omega) (by omega), or_u64 _ (a + b * 67108864) 52 (by omega) (by omega) (by omega) (by omega)]
  congr 1
  omega

theorem high_bits (c d e V : Nat) (hc : c < 67108864) (hd : d < 67108864) (_he : e < 67108864) (x : Nat) (hx : x < 4503599627370496) (hV : V = x + c * 4503599627370496 + d * 302231454903657293676544 + e * 20282409603651670423947251286016) :
    bits .or .u64 (bits .or .u64 ((c : Int) / 4096) ((d : Int) * 16384)) (IntKind.u64.wrap ((e : Int) * 1099511627776)) = ((V / 18446744073709551616 % 18446744073709551616 : Nat) : Int) := by
  have e0 : ((c : Int) / 4096) = ((c / 4096 : Nat) : Int) := by omega
  have e1 : ((d : Int) * 16384) = ((d * 16384 : Nat) : Int) := by rw [Int.natCast_mul]; rfl
  have e2 : IntKind.u64.wrap ((e : Int) * 1099511627776) = ((e * 1099511627776 % 18446744073709551616 : Nat) : Int) := by
    rw [show ((e : Int) * 1099511627776) = ((e * 1099511627776 : Nat) : Int) by rw [Int.natCast_mul]; rfl, wrap64_nat]
  rw [e0, e1, e2, or_u64 (d * 16384) (c / 4096) 14 (by omega) (by omega) (by omega) (by omega), or_u64 _ (c / 4096 + d * 16384) 40 (by omega) (by omega) (by omega) (by omega)]
  congr 1
  omega

theorem byteAt_mod (x n j : Nat) (h : j < n) : byteAt (x % 2 ^ (8 * n)) j = byteAt x j := by
  unfold byteAt
  rw [show 2 ^ (8 * n) = 2 ^ (8 * j) * (2 ^ (8 * (n - j - 1)) * 256) by
    rw [show (256 : Nat) = 2 ^ 8 from rfl, ← Nat.pow_add, ← Nat.pow_add]
    congr 1
    omega, Nat.mod_mul_right_div_self, Nat.mod_mul_left_mod]
theorem byteAt_div (x n j : Nat) : byteAt (x / 2 ^ (8 * n)) j = byteAt x (n + j) := by
  unfold byteAt
  rw [Nat.div_div_eq_div_mul, ← Nat.pow_add, ← Nat.mul_add]

/-- both halves of a sum of numbers of sixteen bytes -/
theorem halves (V s t low high : Nat) (hl : low = (V % 18446744073709551616 + s) % 18446744073709551616) (hh : high = (V / 18446744073709551616 % 18446744073709551616 + t + (V % 18446744073709551616 + s) / 18446744073709551616) % 18446744073709551616) (i : Nat) (hi : i < 16) :
    byteAt (V + (s + t * 18446744073709551616)) i = if i < 8 then byteAt low i else byteAt high (i - 8) := by
  split
  · rename_i h
    rw [← byteAt_mod _ 8 i h]
    congr 1
    show (V + (s + t * 18446744073709551616)) % 18446744073709551616 = low
    omega
  · rename_i h
    rw [show i = 8 + (i - 8) by omega, ← byteAt_div, ← byteAt_mod _ 8 (i - 8) (by omega), show 8 + (i - 8) - 8 = i - 8 by omega]
    congr 1
    show (V + (s + t * 18446744073709551616)) / 18446744073709551616 % 18446744073709551616 = high
    omega

theorem lv5 (a : Nat → Nat) : lv a 5 = a 0 + a 1 * 67108864 + a 2 * 4503599627370496 + a 3 * 302231454903657293676544 + a 4 * 20282409603651670423947251286016 := by
  simp only [lv]
  omega

/-- the number of a mark -/
def tag (V : Nat) (key : Nat → Nat) (i : Nat) : Nat := byteAt (V + le key 16 16) i
theorem tag_lt (V : Nat) (key : Nat → Nat) (i : Nat) : tag V key i < 256 := byteAt_lt _ _
theorem le_two (f : Nat → Nat) (p : Nat) : le f p 16 = le f p 8 + le f (p + 8) 8 * 18446744073709551616 := by
  simp only [le, Nat.add_zero, Nat.add_assoc, Nat.reduceAdd, Nat.reduceMul, Nat.reducePow]
  omega

end Poly
end Go.Proofs.Ythjmbfhakccomaa
