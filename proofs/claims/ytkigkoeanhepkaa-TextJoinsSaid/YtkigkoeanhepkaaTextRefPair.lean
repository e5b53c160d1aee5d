/- The document's own Pair. -/
import Derived.Test.YtkigkoeanhepkaaKit
import Derived.Laws.DeepStrings4
namespace Go.Proofs.Ytkigkoeanhepkaa
namespace Text
open Go.ChangeShapes Go.WideShapes Go.ChangeAt Go.RowKit
open Num Mem

set_option maxHeartbeats 1000000 in
theorem refPair_no (s : ByteArray) (hs : s.size < 2 ^ 62) (hn : ∀ j, j < s.size → chr s j ≠ 61) (w : World) :
    Calls Try.prog 14 #[.string s] w fun e w' => e = .returned (.tuple #[.string s, .string { data := #[] }, .bool false]) ∧ w' = w := by
  have HN := Lib.hid hn
  clear hn
  go_enter Try.func14, Try.ntmps14
  go_wp2
  go_loopw [5] (fun i wr => ∃ k : Nat, k ≤ s.size ∧ i = .int .i64 k ∧ wr = w) (fun i _ => s.size - (intOf i).toNat)
  case atStart => exact ⟨0, Nat.zero_le _, rfl, rfl⟩
  case round =>
    obtain ⟨k, hk, rfl, rfl⟩ := hrel
    by_cases hlt : k < s.size
    · have hT : (decide ((k : Int) < (s.size : Int))) = true := decide_eq_true (by omega)
      have hc := HN.out k hlt
      rw [← Mem.chr_get s k hlt] at hc
      have hC : (((s[k].toNat : Nat) : Int) == 61) = false := beq_false_of_ne (by omega)
      go_wp2
      refine ⟨⟨k + 1, by omega, rfl, trivial⟩, ?_⟩
      show s.size - ((k : Int) + 1).toNat < s.size - (k : Int).toNat
      omega
    · obtain rfl : k = s.size := by omega
      go_wp2
      go_ret3
      exact ⟨rfl, rfl⟩

set_option maxHeartbeats 1000000 in
theorem refPair_yes (s : ByteArray) (hs : s.size < 2 ^ 62) (p : Nat) (hp : p < s.size) (hn : ∀ j, j < p → chr s j ≠ 61) (h61 : chr s p = 61) (w : World) :
    Calls Try.prog 14 #[.string s] w fun e w' => e = .returned (.tuple #[.string (s.extract 0 p), .string (s.extract (p + 1) s.size), .bool true]) ∧ ∃ d, w' = w.drewN d := by
  have HN := Lib.hid hn
  clear hn
  go_enter Try.func14, Try.ntmps14
  go_wp2
  go_loopw [5] (fun i wr => ∃ k : Nat, k ≤ p ∧ i = .int .i64 k ∧ wr = w) (fun i _ => s.size - (intOf i).toNat)
  case atStart => exact ⟨0, Nat.zero_le _, rfl, rfl⟩
  case round =>
    obtain ⟨k, hk, rfl, hw⟩ := hrel
    have hw' := hw.symm
    subst hw'
    clear hw
    have hlt : k < s.size := by omega
    have hT : (decide ((k : Int) < (s.size : Int))) = true := decide_eq_true (by omega)
    by_cases hkp : k < p
    · have hc := HN.out k hkp
      rw [← Mem.chr_get s k hlt] at hc
      have hC : (((s[k].toNat : Nat) : Int) == 61) = false := beq_false_of_ne (by omega)
      go_wp2
      refine ⟨⟨k + 1, by omega, rfl, trivial⟩, ?_⟩
      show s.size - ((k : Int) + 1).toNat < s.size - (k : Int).toNat
      omega
    · obtain rfl : k = p := by omega
      rw [← Mem.chr_get s k hlt] at h61
      have hC : (((s[k].toNat : Nat) : Int) == 61) = true := by rw [h61]; rfl
      have f1 : (0 : Int) ≤ (k : Int) := Int.natCast_nonneg _
      have f2 : (k : Int) ≤ (s.size : Int) := by omega
      have f3 : (0 : Int) ≤ (k : Int) + 1 := by omega
      have f4 : (k : Int) + 1 ≤ (s.size : Int) := by omega
      go_wp2_with fail
      go_quiet (fail)
      go_wp2_with fail
      go_ret3
      exact ⟨rfl, _, rfl⟩

end Text
end Go.Proofs.Ytkigkoeanhepkaa
