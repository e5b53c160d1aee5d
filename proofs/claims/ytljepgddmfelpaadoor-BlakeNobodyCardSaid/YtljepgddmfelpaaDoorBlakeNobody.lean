/- 'aditlaw07.BlakeNobody' returns true at every input and writes nothing that was there: the walk. The condition: the tables read as the program's text lays them. -/
import Derived.Test.YtljepgddmfelpaaDoorBlakeAlive
namespace Go.Proofs.YtljepgddmfelpaaDoor
namespace Blake
open Go.ChangeShapes Go.WideShapes Go.ChangeAt Go.RowKit
open Num Mem Words State Chacha Quiet

set_option maxRecDepth 100000 in
theorem hsum_nil (w : World) : Calls Tryd.prog 19 #[.pointer none] w fun e w' => e = .returned (.tuple #[.slice none 0 0, .int .i64 6]) ∧ w = w' := by
  go_enter Tryd.func19, Tryd.ntmps19
  go_wp2_with fail
  refine (none_nil _).mono ?_
  rintro e w1 ⟨rfl, rfl⟩
  go_wp2_with fail
  go_ret2
  exact ⟨rfl, rfl⟩
set_option maxRecDepth 100000 in
theorem hsum_zero (g : Nat) (w : World) (hc : w.cell? ⟨g, 0, none⟩ = some (.int .i64 (0 : Nat))) : Calls Tryd.prog 19 #[.pointer (some ⟨g, 0, none⟩)] w fun e w' => e = .returned (.tuple #[.slice none 0 0, .int .i64 6]) ∧ w = w' := by
  have HC := Lib.hid hc
  clear hc
  go_enter Tryd.func19, Tryd.ntmps19
  go_wp2_with fail
  refine (none_any g 0 w HC.out true (by simp)).mono ?_
  rintro e w1 ⟨rfl, rfl⟩
  go_wp2_with fail
  go_ret2
  exact ⟨rfl, rfl⟩
set_option maxRecDepth 100000 in
theorem write_nil (A : Option Addr) (m c : Nat) (w : World) : Calls Tryd.prog 18 #[.pointer none, .slice A m c] w fun e w' => e = .returned (.int .i64 6) ∧ w = w' := by
  go_enter Tryd.func18, Tryd.ntmps18
  go_wp2_with fail
  refine (none_nil _).mono ?_
  rintro e w1 ⟨rfl, rfl⟩
  go_wp2_with fail
  go_ret
  exact ⟨rfl, rfl⟩
set_option maxRecDepth 100000 in
theorem write_zero (g : Nat) (A : Option Addr) (m c : Nat) (w : World) (hc : w.cell? ⟨g, 0, none⟩ = some (.int .i64 (0 : Nat))) : Calls Tryd.prog 18 #[.pointer (some ⟨g, 0, none⟩), .slice A m c] w fun e w' => e = .returned (.int .i64 6) ∧ w = w' := by
  have HC := Lib.hid hc
  clear hc
  go_enter Tryd.func18, Tryd.ntmps18
  go_wp2_with fail
  refine (none_any g 0 w HC.out true (by simp)).mono ?_
  rintro e w1 ⟨rfl, rfl⟩
  go_wp2_with fail
  go_ret
  exact ⟨rfl, rfl⟩

end Blake
namespace BlakeNobody
open Go.ChangeShapes Go.WideShapes Go.ChangeAt Go.RowKit
open Num Mem Words State Chacha Quiet Blake

set_option maxRecDepth 100000 in
theorem walk (A : Option Addr) (n c : Nat) (zs : List Int) (w : World) (hL : Laid w) (_ : IsRow .u8 w A n c zs) :
    Calls Tryd.prog 5 #[.slice A n c] w fun e w' => e = .returned (.bool true) ∧ Below w.heap.size w w' := by
  have HL := Lib.hid hL
  clear hL
  by_cases h : 300 < n
  · have d : decide ((300 : Int) < (n : Int)) = true := decide_eq_true (by omega)
    go_enter Tryd.func5, Tryd.ntmps5
    go_wp2_with fail
    refine (alive_any _ HL.out).mono ?_
    rintro e w1 ⟨rfl, hb⟩
    go_wp2_with fail
    go_ret
    exact ⟨rfl, hb⟩
  · have d : decide ((300 : Int) < (n : Int)) = false := decide_eq_false (by omega)
    obtain ⟨zs, hz, hzs, hz0⟩ : ∃ zs : Array Value, (zeroValue 42).run Tryd.prog w = .ok (.agg zs) w ∧ zs.size = 75 ∧ zs[0]? = some (.int .i64 (0 : Nat)) := ⟨_, zero_hash w, hash_count75 rfl 0 (fun _ => 0) 0 0, rfl⟩
    have HZ := Lib.hid hz0
    clear hzs hz0
    go_enter Tryd.func5, Tryd.ntmps5
    go_upto_region 5 with fail
    refine cut_world (fun X => X.cell? ⟨w.heap.size, 0, none⟩ = some (.int .i64 (0 : Nat)) ∧ Laid X ∧ w.heap.size < X.heap.size ∧ Below w.heap.size w X) ⟨?_, laid_alloc HL.out _, by simp, below_alloc (Below.refl _ _) _⟩ ?_
    · rw [(Whole.new w 42 zs).cell]
      exact HZ.out
    clear hz HZ
    rintro W ⟨c0, ql, hlt, qb⟩
    have C0 := Lib.hid c0
    have QL := Lib.hid ql
    have QB := Lib.hid qb
    clear c0 ql qb
    go_wp2_with fail
    refine (hsum_nil _).mono ?_
    rintro e w1 ⟨rfl, rfl⟩
    go_wp2_with fail
    refine (hsum_zero _ _ C0.out).mono ?_
    rintro e w1 ⟨rfl, rfl⟩
    go_wp2_with fail
    refine (alive_any _ QL.out).mono ?_
    rintro e w1 ⟨rfl, hb⟩
    have C1 := Lib.hid ((hb.cell (p := ⟨w.heap.size, 0, none⟩) hlt).trans C0.out)
    have QB1 := Lib.hid (below_trans QB.out hb)
    clear hb C0 QL QB
    go_wp2_with fail
    refine (write_nil _ _ _ _).mono ?_
    rintro e w2 ⟨rfl, rfl⟩
    go_wp2_with fail
    refine (write_zero _ _ _ _ _ C1.out).mono ?_
    rintro e w2 ⟨rfl, rfl⟩
    go_wp2_with fail
    go_ret
    exact ⟨rfl, QB1.out⟩

end BlakeNobody
end Go.Proofs.YtljepgddmfelpaaDoor
