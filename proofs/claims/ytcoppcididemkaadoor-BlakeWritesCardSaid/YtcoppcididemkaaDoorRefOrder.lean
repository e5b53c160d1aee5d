/- The document's own answers of layer 7 (package aditref07): order. -/
import Derived.Test.YtcoppcididemkaaDoorRefMix
import Derived.Test.YtcoppcididemkaaDoorStr
namespace Go.Proofs.YtcoppcididemkaaDoor
namespace RefB
open Go.ChangeShapes Go.WideShapes Go.ChangeAt Go.RowKit
open Num Mem Words State Blake Ref Chacha

/-- the letters of a round's order -/
def ordS : Nat → ByteArray
  | 0 => ⟨#[97, 98, 99, 100, 101, 102, 103, 104, 105, 106, 107, 108, 109, 110, 111, 112]⟩
  | 1 => ⟨#[111, 107, 101, 105, 106, 112, 110, 103, 98, 109, 97, 99, 108, 104, 102, 100]⟩
  | 2 => ⟨#[108, 105, 109, 97, 102, 99, 112, 110, 107, 111, 100, 103, 104, 98, 106, 101]⟩
  | 3 => ⟨#[104, 106, 100, 98, 110, 109, 108, 111, 99, 103, 102, 107, 101, 97, 112, 105]⟩
  | 4 => ⟨#[106, 97, 102, 104, 99, 101, 107, 112, 111, 98, 108, 109, 103, 105, 100, 110]⟩
  | 5 => ⟨#[99, 109, 103, 107, 97, 108, 105, 100, 101, 110, 104, 102, 112, 111, 98, 106]⟩
  | 6 => ⟨#[109, 102, 98, 112, 111, 110, 101, 107, 97, 104, 103, 100, 106, 99, 105, 108]⟩
  | 7 => ⟨#[110, 108, 104, 111, 109, 98, 100, 106, 102, 97, 112, 101, 105, 103, 99, 107]⟩
  | 8 => ⟨#[103, 112, 111, 106, 108, 100, 97, 105, 109, 99, 110, 104, 98, 101, 107, 102]⟩
  | _ => ⟨#[107, 99, 105, 101, 104, 103, 98, 102, 112, 108, 106, 111, 100, 109, 110, 97]⟩
theorem ordS_size (n : Nat) (hn : n < 10) : (ordS n).size = 16 := (show ∀ n, n < 10 → (ordS n).size = 16 by decide +kernel) n hn
theorem ordS_chr (n i : Nat) (hn : n < 10) (hi : i < 16) : chr (ordS n) i = 97 + orders.getD (n * 16 + i) 0 :=
  (show ∀ n, n < 10 → ∀ i, i < 16 → chr (ordS n) i = 97 + orders.getD (n * 16 + i) 0 by decide +kernel) n hn i hi

set_option maxRecDepth 100000 in
theorem order_0 (w : World) : Calls Tryd.prog 21 #[.int .i64 (0 : Nat)] w fun e w' => e = .returned (.string (ordS 0)) ∧ w' = w := by
  have hs : ordS 0 = ⟨#[97, 98, 99, 100, 101, 102, 103, 104, 105, 106, 107, 108, 109, 110, 111, 112]⟩ := rfl
  rw [hs]
  clear hs
  go_enter Tryd.func21, Tryd.ntmps21
  go_wp2
  go_ret
  exact ⟨rfl, rfl⟩
set_option maxRecDepth 100000 in
theorem order_1 (w : World) : Calls Tryd.prog 21 #[.int .i64 (1 : Nat)] w fun e w' => e = .returned (.string (ordS 1)) ∧ w' = w := by
  have hs : ordS 1 = ⟨#[111, 107, 101, 105, 106, 112, 110, 103, 98, 109, 97, 99, 108, 104, 102, 100]⟩ := rfl
  rw [hs]
  clear hs
  go_enter Tryd.func21, Tryd.ntmps21
  go_wp2
  go_ret
  exact ⟨rfl, rfl⟩
set_option maxRecDepth 100000 in
theorem order_2 (w : World) : Calls Tryd.prog 21 #[.int .i64 (2 : Nat)] w fun e w' => e = .returned (.string (ordS 2)) ∧ w' = w := by
  have hs : ordS 2 = ⟨#[108, 105, 109, 97, 102, 99, 112, 110, 107, 111, 100, 103, 104, 98, 106, 101]⟩ := rfl
  rw [hs]
  clear hs
  go_enter Tryd.func21, Tryd.ntmps21
  go_wp2
  go_ret
  exact ⟨rfl, rfl⟩
set_option maxRecDepth 100000 in
theorem order_3 (w : World) : Calls Tryd.prog 21 #[.int .i64 (3 : Nat)] w fun e w' => e = .returned (.string (ordS 3)) ∧ w' = w := by
  have hs : ordS 3 = ⟨#[104, 106, 100, 98, 110, 109, 108, 111, 99, 103, 102, 107, 101, 97, 112, 105]⟩ := rfl
  rw [hs]
  clear hs
  go_enter Tryd.func21, Tryd.ntmps21
  go_wp2
  go_ret
  exact ⟨rfl, rfl⟩
set_option maxRecDepth 100000 in
theorem order_4 (w : World) : Calls Tryd.prog 21 #[.int .i64 (4 : Nat)] w fun e w' => e = .returned (.string (ordS 4)) ∧ w' = w := by
  have hs : ordS 4 = ⟨#[106, 97, 102, 104, 99, 101, 107, 112, 111, 98, 108, 109, 103, 105, 100, 110]⟩ := rfl
  rw [hs]
  clear hs
  go_enter Tryd.func21, Tryd.ntmps21
  go_wp2
  go_ret
  exact ⟨rfl, rfl⟩
set_option maxRecDepth 100000 in
theorem order_5 (w : World) : Calls Tryd.prog 21 #[.int .i64 (5 : Nat)] w fun e w' => e = .returned (.string (ordS 5)) ∧ w' = w := by
  have hs : ordS 5 = ⟨#[99, 109, 103, 107, 97, 108, 105, 100, 101, 110, 104, 102, 112, 111, 98, 106]⟩ := rfl
  rw [hs]
  clear hs
  go_enter Tryd.func21, Tryd.ntmps21
  go_wp2
  go_ret
  exact ⟨rfl, rfl⟩
set_option maxRecDepth 100000 in
theorem order_6 (w : World) : Calls Tryd.prog 21 #[.int .i64 (6 : Nat)] w fun e w' => e = .returned (.string (ordS 6)) ∧ w' = w := by
  have hs : ordS 6 = ⟨#[109, 102, 98, 112, 111, 110, 101, 107, 97, 104, 103, 100, 106, 99, 105, 108]⟩ := rfl
  rw [hs]
  clear hs
  go_enter Tryd.func21, Tryd.ntmps21
  go_wp2
  go_ret
  exact ⟨rfl, rfl⟩
set_option maxRecDepth 100000 in
theorem order_7 (w : World) : Calls Tryd.prog 21 #[.int .i64 (7 : Nat)] w fun e w' => e = .returned (.string (ordS 7)) ∧ w' = w := by
  have hs : ordS 7 = ⟨#[110, 108, 104, 111, 109, 98, 100, 106, 102, 97, 112, 101, 105, 103, 99, 107]⟩ := rfl
  rw [hs]
  clear hs
  go_enter Tryd.func21, Tryd.ntmps21
  go_wp2
  go_ret
  exact ⟨rfl, rfl⟩
set_option maxRecDepth 100000 in
theorem order_8 (w : World) : Calls Tryd.prog 21 #[.int .i64 (8 : Nat)] w fun e w' => e = .returned (.string (ordS 8)) ∧ w' = w := by
  have hs : ordS 8 = ⟨#[103, 112, 111, 106, 108, 100, 97, 105, 109, 99, 110, 104, 98, 101, 107, 102]⟩ := rfl
  rw [hs]
  clear hs
  go_enter Tryd.func21, Tryd.ntmps21
  go_wp2
  go_ret
  exact ⟨rfl, rfl⟩
set_option maxRecDepth 100000 in
theorem order_9 (w : World) : Calls Tryd.prog 21 #[.int .i64 (9 : Nat)] w fun e w' => e = .returned (.string (ordS 9)) ∧ w' = w := by
  have hs : ordS 9 = ⟨#[107, 99, 105, 101, 104, 103, 98, 102, 112, 108, 106, 111, 100, 109, 110, 97]⟩ := rfl
  rw [hs]
  clear hs
  go_enter Tryd.func21, Tryd.ntmps21
  go_wp2
  go_ret
  exact ⟨rfl, rfl⟩

theorem order_ref (n : Nat) (hn : n < 10) (w : World) : Calls Tryd.prog 21 #[.int .i64 n] w fun e w' => e = .returned (.string (ordS n)) ∧ w' = w := by
  rcases (by omega : n = 0 ∨ n = 1 ∨ n = 2 ∨ n = 3 ∨ n = 4 ∨ n = 5 ∨ n = 6 ∨ n = 7 ∨ n = 8 ∨ n = 9) with rfl | rfl | rfl | rfl | rfl | rfl | rfl | rfl | rfl | rfl
  · exact order_0 w
  · exact order_1 w
  · exact order_2 w
  · exact order_3 w
  · exact order_4 w
  · exact order_5 w
  · exact order_6 w
  · exact order_7 w
  · exact order_8 w
  · exact order_9 w

end RefB
end Go.Proofs.YtcoppcididemkaaDoor
