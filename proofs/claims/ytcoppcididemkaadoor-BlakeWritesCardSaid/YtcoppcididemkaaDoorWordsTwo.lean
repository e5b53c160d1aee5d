/- The calls of package words at any arguments, each by what it answers: fits, Big, Put32, Put64, PutBig. -/
import Derived.Test.YtcoppcididemkaaDoorWords
import Derived.Test.YtcoppcididemkaaDoorMem
import Derived.LoopN
namespace Go.Proofs.YtcoppcididemkaaDoor
namespace Words
open Go.ChangeShapes Go.WideShapes Go.ChangeAt Go.RowKit
open Num Mem

/-- byte i of a number, the least first -/
def byteAt (v i : Nat) : Nat := v / 2 ^ (8 * i) % 256
theorem byteAt_lt (v i : Nat) : byteAt v i < 256 := Nat.mod_lt _ (by omega)
theorem byteAt_int (v i : Nat) : ((v : Int) / 2 ^ (8 * i) % 256) = ((byteAt v i : Nat) : Int) := by
  unfold byteAt
  rw [Int.natCast_emod, Int.natCast_ediv, Int.natCast_pow]
  rfl

theorem le_byteAt (v k : Nat) (h : v < 2 ^ (8 * k)) : le (byteAt v) 0 k = v := by
  have := le_digits v k
  rw [Nat.mod_eq_of_lt h] at this
  exact this
/-- the greatest first, likewise -/
theorem be_byteAt (v k : Nat) (h : v < 2 ^ (8 * k)) : be (fun i => byteAt v (k - 1 - i)) 0 k = v := by
  rw [be_le, ← le_byteAt v k h]
  refine le_congr k fun i hi => ?_
  show byteAt _ _ = byteAt _ _
  rw [le_byteAt v k h]
  congr 1
  omega

set_option maxRecDepth 100000 in
theorem put32_lit (v : Nat) (hv : v < 4294967296) (w : World) :
    Calls Tryd.prog 24 #[.int .u32 v] w fun e w' => e = .returned (.agg #[.int .u8 ((v : Int) % 256), .int .u8 ((v : Int) / 256 % 256), .int .u8 ((v : Int) / 65536 % 256), .int .u8 ((v : Int) / 16777216)]) ∧ Below w.heap.size w w' := by
  go_enter Tryd.func24, Tryd.ntmps24
  go_wp2
  refine wp_loop_rounds 5 ?_
  rw [rounds_succ]; go_wp2
  rw [rounds_succ]; go_wp2
  rw [rounds_succ]; go_wp2
  rw [rounds_succ]; go_wp2
  rw [rounds_succ]; go_wp2
  refine bodyPost_ret (v := .agg #[.int .u8 ((v : Int) % 256), .int .u8 ((v : Int) / 256 % 256), .int .u8 ((v : Int) / 65536 % 256), .int .u8 ((v : Int) / 16777216)]) ?_ rfl ⟨rfl, ?_⟩
  · simp [results, Tryd.results24, go_sem]
  · exact ((Below.refl _ _).alloc (Nat.le_refl _) _).alloc (by simp) _

theorem bytes4 (v : Nat) (hv : v < 4294967296) : (#[.int .u8 ((v : Int) % 256), .int .u8 ((v : Int) / 256 % 256), .int .u8 ((v : Int) / 65536 % 256), .int .u8 ((v : Int) / 16777216)] : Array Value) = (byteCells (byteAt v) 4).toArray := by
  have e3 : byteAt v 3 = v / 16777216 := by
    show v / 2 ^ 24 % 256 = _
    omega
  show _ = (#[.int .u8 ((byteAt v 0 : Nat) : Int), .int .u8 ((byteAt v 1 : Nat) : Int), .int .u8 ((byteAt v 2 : Nat) : Int), .int .u8 ((byteAt v 3 : Nat) : Int)] : Array Value)
  rw [e3]
  simp [byteAt]

theorem bytes8 (v : Nat) (hv : v < 18446744073709551616) : (#[.int .u8 ((v : Int) % 256), .int .u8 ((v : Int) / 256 % 256), .int .u8 ((v : Int) / 65536 % 256), .int .u8 ((v : Int) / 16777216 % 256),
      .int .u8 ((v : Int) / 4294967296 % 256), .int .u8 ((v : Int) / 1099511627776 % 256), .int .u8 ((v : Int) / 281474976710656 % 256), .int .u8 ((v : Int) / 72057594037927936)] : Array Value) = (byteCells (byteAt v) 8).toArray := by
  have e7 : byteAt v 7 = v / 72057594037927936 := by
    show v / 2 ^ 56 % 256 = _
    omega
  show _ = (#[.int .u8 ((byteAt v 0 : Nat) : Int), .int .u8 ((byteAt v 1 : Nat) : Int), .int .u8 ((byteAt v 2 : Nat) : Int), .int .u8 ((byteAt v 3 : Nat) : Int),
    .int .u8 ((byteAt v 4 : Nat) : Int), .int .u8 ((byteAt v 5 : Nat) : Int), .int .u8 ((byteAt v 6 : Nat) : Int), .int .u8 ((byteAt v 7 : Nat) : Int)] : Array Value)
  rw [e7]
  simp [byteAt]

/-- Put32: the four bytes -/
theorem put32_any (v : Nat) (hv : v < 4294967296) (w : World) :
    Calls Tryd.prog 24 #[.int .u32 v] w fun e w' => e = .returned (.agg (byteCells (byteAt v) 4).toArray) ∧ Below w.heap.size w w' := by
  have h := put32_lit v hv w
  rw [bytes4 v hv] at h
  exact h

/-- what a row of n bytes is made as -/
theorem made_bytes (n : Nat) (hn : n ≤ 140737488355328) (w : World) :
    (Instr.makeSlice 22 (.int .i64 n) (.int .i64 n)).run Tryd.prog w = .ok (.slice (some ⟨w.heap.size, 0, none⟩) n n) (w.alloc (.cells (byteCells (fun _ => 0) n).toArray 5)) := by
  obtain ⟨i0, hi, hz0, hz1, hz2⟩ := info_parts (show (Tryd.prog.info? 5).map (fun i => (i.zero, i.size, i.bytes)) = some (some (.int .u8 0), 1, 1) by kernel_rfl)
  rw [run_make w 22 5 i0 (.int .u8 0) Tryd.underlying22 hi hz0 .i64 .i64 n n (by omega) (by omega) (by rw [hz2]; omega) (by omega)]
  have e : madeCells (Value.int .u8 0).cells (((n : Int)).toNat * i0.size) = (byteCells (fun _ => 0) n).toArray := by
    rw [hz1]
    apply Array.ext_getElem?
    intro i
    by_cases hi : i < n <;> simp [madeCells, Value.cells, byteCells, hi, Nat.mod_one]
  rw [e]
  rfl

end Words
end Go.Proofs.YtcoppcididemkaaDoor
