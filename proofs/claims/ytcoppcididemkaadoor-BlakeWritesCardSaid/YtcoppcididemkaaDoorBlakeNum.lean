/- BLAKE2s by definition, on rows of sixteen numbers: mixing, a round, a block; nothing of the program. -/
import Derived.Test.YtcoppcididemkaaDoorState
namespace Go.Proofs.YtcoppcididemkaaDoor
namespace Blake
open Num State

def add3 (s : List Nat) (a b x : Nat) : List Nat := s.set a ((s.getD a 0 + (s.getD b 0 + x) % 4294967296) % 4294967296)
def add2 (s : List Nat) (c d : Nat) : List Nat := s.set c ((s.getD c 0 + s.getD d 0) % 4294967296)
def xr (s : List Nat) (d a n : Nat) : List Nat := s.set d (rotl (s.getD d 0 ^^^ s.getD a 0) n)
def mixL (s : List Nat) (a b c d x y : Nat) : List Nat :=
  xr (add2 (xr (add3 (xr (add2 (xr (add3 s a b x) d a 16) c d) b c 20) a b y) d a 24) c d) b c 25

theorem add3_length (s : List Nat) (a b x : Nat) : (add3 s a b x).length = s.length := by simp [add3]
theorem add2_length (s : List Nat) (c d : Nat) : (add2 s c d).length = s.length := by simp [add2]
theorem xr_length (s : List Nat) (d a n : Nat) : (xr s d a n).length = s.length := by simp [xr]
theorem add3_fits {s : List Nat} (h : Fits s) (a b x : Nat) : Fits (add3 s a b x) := h.set _ _ (Nat.mod_lt _ (by omega))
theorem add2_fits {s : List Nat} (h : Fits s) (c d : Nat) : Fits (add2 s c d) := h.set _ _ (Nat.mod_lt _ (by omega))
theorem xr_fits {s : List Nat} (h : Fits s) (d a n : Nat) (hn : n ≤ 31) : Fits (xr s d a n) := h.set _ _ (rotl_lt _ _ (Nat.xor_lt_two_pow (n := 32) (h d) (h a)) hn)
theorem mixL_length (s : List Nat) (a b c d x y : Nat) : (mixL s a b c d x y).length = s.length := by simp only [mixL, xr_length, add2_length, add3_length]
theorem mixL_fits {s : List Nat} (h : Fits s) (a b c d x y : Nat) : Fits (mixL s a b c d x y) :=
  xr_fits (add2_fits (xr_fits (add3_fits (xr_fits (add2_fits (xr_fits (add3_fits h _ _ _) _ _ _ (by omega)) _ _) _ _ _ (by omega)) _ _ _) _ _ _ (by omega)) _ _) _ _ _ (by omega)
theorem wrap_three (x y z : Nat) : IntKind.u32.wrap ((x : Int) + IntKind.u32.wrap ((y : Int) + (z : Int))) = (((x + (y + z) % 4294967296) % 4294967296 : Nat) : Int) := by
  have e : ∀ n : Nat, IntKind.u32.wrap (n : Int) = ((n % 4294967296 : Nat) : Int) := fun n => by
    show ((n : Int) % 4294967296) = _
    omega
  rw [show (y : Int) + (z : Int) = ((y + z : Nat) : Int) by omega, e, show (x : Int) + ((y + z) % 4294967296 : Nat) = ((x + (y + z) % 4294967296 : Nat) : Int) by omega, e]

theorem wrap_two (x y : Nat) : IntKind.u32.wrap ((x : Int) + (y : Int)) = (((x + y) % 4294967296 : Nat) : Int) := by
  show (((x : Int) + (y : Int)) % 4294967296) = _
  omega

/-- the orders of the ten rounds, one behind the other -/
def orders : List Nat := [0, 1, 2, 3, 4, 5, 6, 7, 8, 9, 10, 11, 12, 13, 14, 15, 14, 10, 4, 8, 9, 15, 13, 6, 1, 12, 0, 2, 11, 7, 5, 3, 11, 8, 12, 0, 5, 2, 15, 13, 10, 14, 3, 6, 7, 1, 9, 4, 7, 9, 3, 1, 13, 12, 11, 14, 2, 6, 5, 10, 4, 0, 15, 8, 9, 0, 5, 7, 2, 4, 10, 15, 14, 1, 11, 12, 6, 8, 3, 13, 2, 12, 6, 10, 0, 11, 8, 3, 4, 13, 7, 5, 15, 14, 1, 9, 12, 5, 1, 15, 14, 13, 4, 10, 0, 7, 6, 3, 9, 2, 8, 11, 13, 11, 7, 14, 12, 1, 3, 9, 5, 0, 15, 4, 8, 6, 2, 10, 6, 15, 14, 9, 11, 3, 0, 8, 12, 2, 13, 7, 1, 4, 10, 5, 10, 2, 8, 4, 7, 6, 1, 5, 15, 11, 9, 14, 3, 12, 13, 0]
def eight : List Nat := [1779033703, 3144134277, 1013904242, 2773480762, 1359893119, 2600822924, 528734635, 1541459225]
theorem orders_lt (i : Nat) (h : i < 160) : orders.getD i 0 < 16 := (show ∀ i, i < 160 → orders.getD i 0 < 16 by decide +kernel) i h
/-- what the tables hold: block 0 and block 1 -/
structure Laid (w : World) : Prop where
  eight : ∀ i, i < 8 → w.cell? ⟨0, i, none⟩ = some (.int .u32 (eight.getD i 0 : Nat))
  orders : ∀ i, i < 160 → w.cell? ⟨1, i, none⟩ = some (.int .u8 (orders.getD i 0 : Nat))
  size : 2 ≤ w.heap.size
def colL (n : Nat) (m s : List Nat) (i : Nat) : List Nat := mixL s i (4 + i) (8 + i) (12 + i) (m.getD (orders.getD (n * 16 + 2 * i) 0) 0) (m.getD (orders.getD (n * 16 + (2 * i + 1)) 0) 0)
def slantL (n : Nat) (m s : List Nat) (i : Nat) : List Nat := mixL s i (4 + (i + 1) % 4) (8 + (i + 2) % 4) (12 + (i + 3) % 4) (m.getD (orders.getD (n * 16 + (8 + 2 * i)) 0) 0) (m.getD (orders.getD (n * 16 + (9 + 2 * i)) 0) 0)
def upto (f : List Nat → Nat → List Nat) (s : List Nat) : Nat → List Nat
  | 0 => s
  | k + 1 => f (upto f s k) k
def roundL (n : Nat) (m s : List Nat) : List Nat := upto (slantL n m) (upto (colL n m) s 4) 4
theorem upto_col_length (n : Nat) (m s : List Nat) : ∀ k, (upto (colL n m) s k).length = s.length
  | 0 => rfl
  | k + 1 => (mixL_length ..).trans (upto_col_length n m s k)
theorem upto_slant_length (n : Nat) (m s : List Nat) : ∀ k, (upto (slantL n m) s k).length = s.length
  | 0 => rfl
  | k + 1 => (mixL_length ..).trans (upto_slant_length n m s k)
theorem upto_col_fits {s : List Nat} (n : Nat) (m : List Nat) (h : Fits s) : ∀ k, Fits (upto (colL n m) s k)
  | 0 => h
  | k + 1 => mixL_fits (upto_col_fits n m h k) _ _ _ _ _ _
theorem upto_slant_fits {s : List Nat} (n : Nat) (m : List Nat) (h : Fits s) : ∀ k, Fits (upto (slantL n m) s k)
  | 0 => h
  | k + 1 => mixL_fits (upto_slant_fits n m h k) _ _ _ _ _ _

end Blake
end Go.Proofs.YtcoppcididemkaaDoor
