/- The calls of package words at any arguments, each by what it answers: Rotate, Load32, Load64, Big, Put32, Put64, PutBig. -/
import Derived.Test.YtcoppcididemkaaDoorRows
import Derived.Test.YtcoppcididemkaaDoorNum
import Derived.WalkKit
import Derived.ProofKit
import Derived.OpenShut
import Derived.BigQuiet
import Derived.Deep.QuietTactic
import Derived.Lib.Hide
import Derived.Below
namespace Go.Proofs.YtcoppcididemkaaDoor
namespace Words
open Go.ChangeShapes Go.WideShapes Go.ChangeAt Go.RowKit
open Num

set_option maxRecDepth 100000 in
theorem rotate_any (v u : Nat) (n : Int) (hu : n % 32 = (u : Int)) (hv : v < 2 ^ 32) (w : World) :
    Calls Tryd.prog 30 #[.int .u32 v, .int .i64 n] w fun e w' => e = .returned (.int .u32 (rotl v u : Nat)) ∧ ∃ k, w' = w.drewN k := by
  have hb : bits .and .i64 n 31 = (u : Int) := by rw [and31, hu]
  have hu2 : u ≤ 31 := by omega
  have HR := Lib.hid (or_rot v u hv)
  clear hu
  go_enter Tryd.func30, Tryd.ntmps30
  go_wp2
  go_quiet (fail)
  go_wp2
  go_ret
  exact ⟨by rw [HR.out]; rfl, _, rfl⟩

/-- what is wrong with reading size bytes from p on, out of n -/
def lackI (n : Nat) (p size : Int) : Int := if p < 0 then 1 else if p ≤ n - size then 0 else 10
theorem lackI_neg {n : Nat} {p size : Int} (h : p < 0) : lackI n p size = 1 := by unfold lackI; rw [if_pos h]
theorem lackI_ok {n : Nat} {p size : Int} (h : 0 ≤ p) (h' : p ≤ n - size) : lackI n p size = 0 := by unfold lackI; rw [if_neg (by omega), if_pos h']
theorem lackI_far {n : Nat} {p size : Int} (h : 0 ≤ p) (h' : (n : Int) - size < p) : lackI n p size = 10 := by unfold lackI; rw [if_neg (by omega), if_neg (by omega)]

set_option maxRecDepth 100000 in
theorem lacks_any (A : Option Addr) (n c : Nat) (p size : Int) (h0 : 1 ≤ size) (h1 : size ≤ 8) (hn : n ≤ 9223372036854775807) (w : World) :
    Calls Tryd.prog 31 #[.slice A n c, .int .i64 p, .int .i64 size] w fun e w' => e = .returned (.int .i64 (lackI n p size)) ∧ w = w' := by
  by_cases hp : p < 0
  · go_enter Tryd.func31, Tryd.ntmps31
    go_wp2
    go_ret
    exact ⟨by rw [lackI_neg hp]; rfl, rfl⟩
  · have hp' : 0 ≤ p := by omega
    clear hp
    by_cases hq : p ≤ n - size
    · go_enter Tryd.func31, Tryd.ntmps31
      go_wp2
      go_ret
      exact ⟨by rw [lackI_ok hp' hq]; rfl, rfl⟩
    · have hq' : (n : Int) - size < p := by omega
      clear hq
      go_enter Tryd.func31, Tryd.ntmps31
      go_wp2
      go_ret
      exact ⟨by rw [lackI_far hp' hq']; rfl, rfl⟩

/-- likewise, where it is known that something is -/
def wrongI (p : Int) : Int := if p < 0 then 1 else 10

set_option maxRecDepth 100000 in
theorem little_ok (b off n c : Nat) (f : Nat → Nat) (hf : ∀ i, f i < 256) (p size : Nat) (h0 : 1 ≤ size) (h1 : size ≤ 8) (h : p + size ≤ n) (hn : n ≤ 9223372036854775807) (w : World)
    (hc : ∀ i, i < n → w.cell? ⟨b, off + i, none⟩ = some (.int .u8 (f i))) :
    Calls Tryd.prog 29 #[.slice (some ⟨b, off, none⟩) n c, .int .i64 p, .int .i64 size] w fun e w' => e = .returned (.tuple #[.int .u64 (le f p size), .int .i64 0]) ∧ w = w' := by
  have HC := Lib.hid hc
  clear hc
  have HF := Lib.hid hf
  clear hf
  go_enter Tryd.func29, Tryd.ntmps29
  go_wp2_with (go_at_call 31; refine (lacks_any _ _ _ _ _ (by omega) (by omega) (by omega) _).mono ?_; rintro e w' ⟨rfl, rfl⟩; rw [lackI_ok (by omega) (by omega)])
  go_loop [9, 10, 19] (fun v _ i => ∃ k : Nat, k ≤ size ∧ i = .int .i64 k ∧ v = .int .u64 (le f p k)) (fun _ _ i => size - (intOf i).toNat)
  case atStart => exact ⟨0, Nat.zero_le _, rfl, rfl⟩
  case round =>
    obtain ⟨k, hk, rfl, rfl⟩ := hrel
    by_cases hlt : k < size
    · have hcell := HC.out (p + k) (by omega)
      go_wp2
      go_round
      case rel => exact ⟨k + 1, by omega, by go_num, by rw [or_low _ _ k (by omega) (le_lt HF.out p k) (HF.out _)]; rfl⟩
      case measure => simp [intOf]; omega
    · go_wp2
      go_ret2
      exact ⟨by rw [show k = size from by omega]; rfl, rfl⟩

set_option maxRecDepth 100000 in
theorem little_no (A : Option Addr) (n c : Nat) (p : Int) (size : Nat) (h0 : 1 ≤ size) (h1 : size ≤ 8) (hn : n ≤ 9223372036854775807) (h : p < 0 ∨ (n : Int) - size < p) (w : World) :
    Calls Tryd.prog 29 #[.slice A n c, .int .i64 p, .int .i64 size] w fun e w' => e = .returned (.tuple #[.int .u64 0, .int .i64 (wrongI p)]) ∧ w = w' := by
  by_cases hp : p < 0
  · go_enter Tryd.func29, Tryd.ntmps29
    go_wp2_with (go_at_call 31; refine (lacks_any _ _ _ _ _ (by omega) (by omega) (by omega) _).mono ?_; rintro e w' ⟨rfl, rfl⟩; rw [lackI_neg hp])
    go_ret2
    exact ⟨by rw [show wrongI p = 1 from if_pos hp]; rfl, rfl⟩
  · have hp' : 0 ≤ p := by omega
    have hq : (n : Int) - size < p := by omega
    clear hp h
    go_enter Tryd.func29, Tryd.ntmps29
    go_wp2_with (go_at_call 31; refine (lacks_any _ _ _ _ _ (by omega) (by omega) (by omega) _).mono ?_; rintro e w' ⟨rfl, rfl⟩; rw [lackI_far hp' hq])
    go_ret2
    exact ⟨by rw [show wrongI p = 10 from if_neg (by omega)]; rfl, rfl⟩

set_option maxRecDepth 100000 in
theorem load32_ok (b off n c : Nat) (f : Nat → Nat) (hf : ∀ i, f i < 256) (p : Nat) (h : p + 4 ≤ n) (hn : n ≤ 9223372036854775807) (w : World)
    (hc : ∀ i, i < n → w.cell? ⟨b, off + i, none⟩ = some (.int .u8 (f i))) :
    Calls Tryd.prog 26 #[.slice (some ⟨b, off, none⟩) n c, .int .i64 p] w fun e w' => e = .returned (.tuple #[.int .u32 (le f p 4), .int .i64 0]) ∧ w = w' := by
  have HC := Lib.hid hc
  clear hc
  have HF := Lib.hid hf
  clear hf
  have hl : le f p 4 < 4294967296 := le_lt HF.out p 4
  go_enter Tryd.func26, Tryd.ntmps26
  go_wp2_with (go_at_call 29; refine (little_ok b off n c f HF.out p 4 (by omega) (by omega) h hn _ HC.out).mono ?_; rintro e w' ⟨rfl, rfl⟩)
  go_ret2
  exact ⟨rfl, rfl⟩

set_option maxRecDepth 100000 in
theorem load32_no (A : Option Addr) (n c : Nat) (p : Int) (hn : n ≤ 9223372036854775807) (h : p < 0 ∨ (n : Int) - 4 < p) (w : World) :
    Calls Tryd.prog 26 #[.slice A n c, .int .i64 p] w fun e w' => e = .returned (.tuple #[.int .u32 0, .int .i64 (wrongI p)]) ∧ w = w' := by
  go_enter Tryd.func26, Tryd.ntmps26
  go_wp2_with (go_at_call 29; refine (little_no A n c p 4 (by omega) (by omega) hn h _).mono ?_; rintro e w' ⟨rfl, rfl⟩)
  go_ret2
  exact ⟨rfl, rfl⟩

end Words
end Go.Proofs.YtcoppcididemkaaDoor
