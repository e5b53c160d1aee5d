/- The library's sort of a short row, whole. -/
import Derived.Test.YtlbfjdpcnnplnaaFdSort
namespace Go.Proofs.Ytlbfjdpcnnplnaa
namespace Fee
open Go.ChangeShapes Go.WideShapes Go.ChangeAt Go.RowKit Go.Maps
open Num Mem Words Chacha Aead Poly Quiet RowV RowS

set_option maxRecDepth 100000 in
theorem len64_any (n : Nat) (hn : n ≤ 8) (w : World) : Calls Try.prog 46 #[.int .u64 (n : Nat)] w fun e w' => (∃ v : Int, e = .returned (.int .i64 v)) ∧ w = w' := by
  have hc : n = 0 ∨ n = 1 ∨ n = 2 ∨ n = 3 ∨ n = 4 ∨ n = 5 ∨ n = 6 ∨ n = 7 ∨ n = 8 := by omega
  rcases hc with rfl | rfl | rfl | rfl | rfl | rfl | rfl | rfl | rfl
  all_goals
    go_enter Try.func46, Try.ntmps46
    go_wp2_with fail
    go_ret
    exact ⟨⟨_, rfl⟩, rfl⟩
set_option maxRecDepth 100000 in
theorem len_any (n : Nat) (hn : n ≤ 8) (w : World) : Calls Try.prog 35 #[.int .u64 (n : Nat)] w fun e w' => (∃ v : Int, e = .returned (.int .i64 v)) ∧ w = w' := by
  have H := Lib.hid (len64_any n hn w)
  go_enter Try.func35, Try.ntmps35
  go_wp2_with fail
  refine H.out.mono ?_
  rintro e w1 ⟨⟨v, rfl⟩, rfl⟩
  go_wp2_with fail
  go_ret
  exact ⟨⟨_, rfl⟩, rfl⟩
set_option maxRecDepth 100000 in
set_option maxHeartbeats 1000000 in
theorem pdq_any (B g c n : Nat) (v : Int) (xs : List Nat) (w : World) (h : w.ownsRow B 23 1 (.slice (some ⟨g, 0, none⟩) n c) n (us xs)) (hl : xs.length = n) (hn : n ≤ 12) :
    Calls Try.prog 34 #[.slice (some ⟨g, 0, none⟩) n c, .int .i64 0, .int .i64 (n : Nat), .int .i64 v] w fun e w' => e = .returned (.tuple #[]) ∧ ∃ zs, zs.Perm xs ∧ Asc zs ∧ Ro w B g c n zs w' := by
  have H := Lib.hid (isort_any B g c n xs w h hl (by omega))
  clear h hl
  have hd : decide ((n : Int) ≤ 12) = true := decide_eq_true (by omega)
  have hw1 : IntKind.i64.wrap ((n : Int) - 0) = (n : Int) := by rw [IntKind.wrap_i64]; omega
  go_enter Try.func34, Try.ntmps34
  go_wp2_with fail
  go_loopw [1, 2, 3, 8, 9, 10, 11, 12, 13, 14, 15, 16, 17, 18] (fun a1 a2 a3 _ _ _ _ _ _ _ _ _ _ _ X => a1 = .int .i64 0 ∧ a2 = .int .i64 n ∧ a3 = .int .i64 v ∧ X = w) (fun _ _ _ _ _ _ _ _ _ _ _ _ _ _ _ => 0)
  case atStart => exact ⟨rfl, rfl, rfl, rfl⟩
  case round =>
    obtain ⟨rfl, rfl, rfl, rfl⟩ := hrel
    go_wp2_with fail
    refine H.out.mono ?_
    rintro e w1 ⟨rfl, hz⟩
    have HZ := Lib.hid hz
    clear hz
    go_wp2_with fail
    refine bodyPost_ret (results_none (by rfl) _ _ _) rfl ?_
    exact ⟨rfl, HZ.out⟩
set_option maxRecDepth 100000 in
theorem sort_any (B g c n : Nat) (xs : List Nat) (w : World) (h : w.ownsRow B 23 1 (.slice (some ⟨g, 0, none⟩) n c) n (us xs)) (hl : xs.length = n) (hn : n ≤ 8) :
    Calls Try.prog 32 #[.slice (some ⟨g, 0, none⟩) n c] w fun e w' => e = .returned (.tuple #[]) ∧ ∃ zs, zs.Perm xs ∧ Asc zs ∧ Ro w B g c n zs w' := by
  have H := Lib.hid (fun v => pdq_any B g c n v xs w h hl (by omega))
  have HL := Lib.hid (len_any n hn w)
  clear h hl
  have hw1 : IntKind.u64.wrap (n : Int) = (n : Int) := by rw [IntKind.wrap_u64]; omega
  go_enter Try.func32, Try.ntmps32
  go_wp2_with fail
  refine HL.out.mono ?_
  rintro e w1 ⟨⟨v, rfl⟩, rfl⟩
  go_wp2_with fail
  refine (H.out v).mono ?_
  rintro e w1 ⟨rfl, hz⟩
  have HZ := Lib.hid hz
  clear hz
  go_wp2_with fail
  go_end0
  exact ⟨rfl, HZ.out⟩
theorem asc_uniq : ∀ {a b : List Nat}, a.Perm b → Asc a → b.Pairwise (· < ·) → a = b
  | a, b, h, ha, hb => List.Perm.eq_of_pairwise (le := (· ≤ ·)) (fun x y _ _ h1 h2 => Nat.le_antisymm h1 h2) ha (hb.imp Nat.le_of_lt) h
end Fee
end Go.Proofs.Ytlbfjdpcnnplnaa
