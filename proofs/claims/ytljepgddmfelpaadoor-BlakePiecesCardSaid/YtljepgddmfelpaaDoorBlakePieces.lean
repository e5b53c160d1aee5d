/- 'aditlaw07.BlakePieces' returns true at every input and writes nothing that was there: the walk. The condition: the tables read as the program's text lays them. -/
import Derived.Test.YtljepgddmfelpaaDoorBlakeAlive
namespace Go.Proofs.YtljepgddmfelpaaDoor
namespace BlakePieces
open Go.ChangeShapes Go.WideShapes Go.ChangeAt Go.RowKit
open Num Mem Words State Chacha Quiet Blake

/-- a hash g on its way, and the sum that is wanted, at G -/
structure PieceW (w : World) (g G s : Nat) (S0 : List Nat) (T : Nat → Nat) (N : Nat) (F : Nat → Nat) (X : World) : Prop where
  hash : HashOf X g s S0 T N
  want : Whole X G 5 (byteCells F s).toArray
  laid : Laid X
  bel : Below w.heap.size w X
theorem PieceW.below {w : World} {g G s : Nat} {S0 : List Nat} {T : Nat → Nat} {N : Nat} {F : Nat → Nat} {X Y : World} (h : PieceW w g G s S0 T N F X) (hb : Below X.heap.size X Y) : PieceW w g G s S0 T N F Y :=
  ⟨HashAt.below h.hash hb (HashAt.lt h.hash), h.want.below hb h.want.lt, laid_below h.laid hb, below_trans h.bel hb⟩
theorem PieceW.write {w : World} {g G s : Nat} {S0 : List Nat} {T : Nat → Nat} {N M : Nat} {F : Nat → Nat} {X Y : World} (h : PieceW w g G s S0 T N F X) (hg : 2 ≤ g ∧ w.heap.size ≤ g ∧ G ≠ g) (hh : HashOf Y g s S0 T M) (hb : X.grownBy Y (some g)) : PieceW w g G s S0 T M F Y :=
  ⟨hh, whole_grown h.want hb hg.2.2, laid_of h.laid hg.1 hb, below_grown h.bel hb hg.2.1 h.bel.size⟩

/-- a text that came in, and what is left of it -/
structure TextAt (w : World) (ab ao n c : Nat) (f : Nat → Nat) : Prop where
  lt : ab < w.heap.size
  cells : ∀ i, i < n → w.cell? ⟨ab, ao + i, none⟩ = some (.int .u8 (f i : Nat))
theorem TextAt.rest {w X : World} {ab ao n c : Nat} {f : Nat → Nat} (h : TextAt w ab ao n c f) (p : Nat) (_ : p ≤ n) (hb : Below w.heap.size w X) : Rd X (some ⟨ab, ao + p, none⟩) (n - p) (fun i => f (p + i)) :=
  .inr ⟨ab, ao + p, rfl, Nat.lt_of_lt_of_le h.lt hb.size, fun i hi => by
    rw [Nat.add_assoc]
    exact (hb.cell (p := ⟨ab, ao + (p + i), none⟩) h.lt).trans (h.cells (p + i) (by omega))⟩

theorem row_at {w : World} {A : Option Addr} {n c : Nat} {zs : List Int} (h : IsRow .u8 w A n c zs) : ∃ f : Nat → Nat, (∀ i, f i < 256) ∧ Rd w A n f ∧ n ≤ c ∧ ((A = none ∧ n = 0 ∧ c = 0) ∨ (∃ x, A = some x ∧ n = 0 ∧ c = 0) ∨ ∃ ab ao, A = some ⟨ab, ao, none⟩ ∧ TextAt w ab ao n c f) := by
  obtain ⟨f, hf, hr, hc, hm⟩ := rd_of_row h
  refine ⟨f, hf, hr, hc, ?_⟩
  rcases h with ⟨rfl, rfl, rfl, _⟩ | ⟨x, rfl, hl, _, hz, hcell, _⟩
  · exact .inl ⟨rfl, rfl, rfl⟩
  · rcases Nat.eq_zero_or_pos c with h0 | h0
    · exact .inr (.inl ⟨x, rfl, by omega, h0⟩)
    · obtain ⟨b, off, spot⟩ := x
      have hc0 := hcell 0 (by omega)
      have hspot : spot = none := by simpa [Addr.add] using World.cell?_spot hc0
      subst hspot
      have hlt : b < w.heap.size := by
        rcases Nat.lt_or_ge b w.heap.size with k | k
        · exact k
        · exfalso
          simp [Addr.add, World.cell?, Array.getElem?_eq_none k] at hc0
      refine .inr (.inr ⟨b, off, rfl, hlt, fun i hi => ?_⟩)
      rcases hr with h | ⟨b', off', e, _, h3⟩
      · omega
      · injection e with e
        injection e with e1 e2
        subst e1
        subst e2
        exact h3 i hi

theorem withKey_at (key : Nat → Nat) (k : Nat) (f : Nat → Nat) (j : Nat) : withKey key k f (keyLen k + j) = f j := by
  unfold withKey keyLen
  by_cases h : k = 0
  · rw [if_pos h, if_pos h, Nat.zero_add]
  · rw [if_neg h, if_neg h, if_neg (by omega), Nat.add_sub_cancel_left]

set_option maxRecDepth 100000 in
set_option maxHeartbeats 2000000 in
theorem okI (s : Nat) (hs1 : 1 ≤ s) (hs2 : s ≤ 32) (A : Option Addr) (k c : Nat) (hk : k ≤ 32) (key : Nat → Nat) (hkey : ∀ i, key i < 256) (f : Nat → Nat) (hf : ∀ i, f i < 256) (hc2 : (0 : Nat) ≤ (0 : Nat)) (A3 : Option Addr) (m c3 : Nat) (hm : m ≤ 9223372036854775807) (cu : Nat → Nat) (hcu : ∀ i, cu i < 256) (w : World) (hL : Laid w) (hA : Rd w A k key)  (hA2 : Rd w none (0 : Nat) f) (hA3 : Rd w A3 m cu) :
    Calls Tryd.prog 6 #[.int .i64 s, .slice A k c, .slice none (0 : Nat) (0 : Nat), .slice A3 m c3] w fun e w' => e = .returned (.bool true) ∧ Below w.heap.size w w' := by
  have d1 : decide ((3000 : Int) < ((0 : Nat) : Int)) = false := decide_eq_false (by omega)
  have d2 : decide ((100 : Int) < (k : Int)) = false := decide_eq_false (by omega)
  have hkl := keyLen_le k
  obtain ⟨S0, hS0⟩ : ∃ S0, firstL s k = S0 := ⟨_, rfl⟩
  obtain ⟨T, hT⟩ : ∃ T, withKey key k f = T := ⟨_, rfl⟩
  obtain ⟨F, hF⟩ : ∃ F, digest s key k f (0 : Nat) = F := ⟨_, rfl⟩
  have HFF := Lib.hid (show sumAt (finalL S0 T (keyLen k + (0 : Nat))) = F by rw [← hS0, ← hT, ← hF]; rfl)
  have HS0 := Lib.hid (show S0.length = 8 by rw [← hS0]; exact firstL_length s k)
  have HF0 := Lib.hid (show Fits S0 by rw [← hS0]; exact firstL_fits s k hs2 hk)
  have HTL := Lib.hid (show ∀ i, T i < 256 by rw [← hT]; exact withKey_lt hkey hf k)
  have HTC := Lib.hid (show ∀ p i, (if i < keyLen k + p then T i else f (p + (i - (keyLen k + p)))) = T i from fun p i => by
    split
    · rfl
    · rw [← hT, ← withKey_at key k f]
      congr 1
      omega)
  have C1 := Lib.hid (sum_ok s A none k c (0 : Nat) (0 : Nat) key f hs1 hs2 hk hkey hf (by omega) hc2)
  have C2 := Lib.hid (new_any s A k c key f hs1 hs2 hk)
  rw [hF] at C1
  rw [hS0, hT] at C2
  have HL := Lib.hid hL
  have HA := Lib.hid hA
  have HA2 := Lib.hid hA2
  have HA3 := Lib.hid hA3
  have HCU := Lib.hid hcu
  have HF := Lib.hid hf
  skip
  clear hS0 hT hF hL hA hA2 hA3 hcu hf hkey
  go_enter Tryd.func6, Tryd.ntmps6
  go_wp2_with fail
  refine (C1.out w HL.out HA.out HA2.out).mono ?_
  rintro e w1 ⟨G, rfl, q1, hG, hb1⟩
  have Q1 := Lib.hid q1
  have HL1 := Lib.hid (laid_below HL.out hb1)
  have HA1 := Lib.hid (HA.out.below hb1 (Nat.le_refl _))
  have HB1 := Lib.hid hb1
  clear q1 hG hb1
  go_wp2_with fail
  refine (C2.out _ HL1.out HA1.out).mono ?_
  rintro e w2 ⟨rfl, h2, hb2⟩
  have HP := Lib.hid (show PieceW w w1.heap.size G s S0 T (keyLen k + 0) F w2 from ⟨h2, Q1.out.below hb2 Q1.out.lt, laid_below HL1.out hb2, below_trans HB1.out hb2⟩)
  have HG := Lib.hid (show 2 ≤ w1.heap.size ∧ w.heap.size ≤ w1.heap.size ∧ G ≠ w1.heap.size from ⟨HL1.out.size, HB1.out.size, by have := Q1.out.lt; omega⟩)
  clear h2 hb2 Q1 HL1 HA1 HB1 HL HA
  generalize w1.heap.size = g at HP HG ⊢
  go_wp2_with fail
  go_loopw [13, 14] (fun a j wr => ∃ i at' : Nat, j = .int .i64 i ∧ a = .int .i64 at' ∧ i ≤ m ∧ at' ≤ (0 : Nat) ∧ PieceW w g G s S0 T (keyLen k + at') F wr) (fun _ j _ => m - (intOf j).toNat)
  case atStart => exact ⟨0, 0, rfl, rfl, by omega, by omega, HP.out⟩
  case round =>
    obtain ⟨i, at', rfl, rfl, him', han', hr⟩ := hrel
    clear HP
    by_cases him : i < m
    · by_cases han : at' < (0 : Nat)
      · omega
      · have HR := Lib.hid hr
        have dm : decide ((i : Int) < (m : Int)) = true := decide_eq_true (by omega)
        have dn : decide ((at' : Int) < ((0 : Nat) : Int)) = false := decide_eq_false (by omega)
        clear hr
        have hcap0 : 0 = at' := by omega
        subst hcap0
        go_wp2_with fail

        refine (write_any g s (keyLen k + 0) S0 T (fun i => f (0 + i)) none 0 0 HS0.out HF0.out HTL.out (fun i => HF.out _) (by omega) (by omega) HG.out.1 (by omega) _ HR.out.laid HR.out.hash (.inl (by omega)) (fun h => by omega)).mono ?_
        rintro e w3 ⟨rfl, h3, g3⟩
        have h3' := h3.congr (t' := T) (fun i _ => HTC.out 0 i)
        rw [show keyLen k + 0 + 0 = keyLen k + (0 : Nat) by omega] at h3'
        have HR2 := Lib.hid (show PieceW w g G s S0 T (keyLen k + (0 : Nat)) F w3 from HR.out.write HG.out h3' g3)
        clear h3 h3' g3 HR
        go_wp2_with fail
        refine (hsum_any g s (keyLen k + (0 : Nat)) S0 T HS0.out HF0.out HTL.out (by omega) hs1 hs2 _ HR2.out.laid HR2.out.hash).mono ?_
        rintro e w4 ⟨G4, rfl, q4, _, hb4⟩
        rw [HFF.out] at q4
        have HR3 := Lib.hid (HR2.out.below hb4)
        have Q4 := Lib.hid q4
        clear q4 hb4 HR2
        go_wp2_with fail
        refine (hsum_any g s (keyLen k + (0 : Nat)) S0 T HS0.out HF0.out HTL.out (by omega) hs1 hs2 _ HR3.out.laid HR3.out.hash).mono ?_
        rintro e w5 ⟨G5, rfl, q5, _, hb5⟩
        rw [HFF.out] at q5
        have HR4 := Lib.hid (HR3.out.below hb5)
        have Q5 := Lib.hid q5
        have Q4' := Lib.hid (Q4.out.below hb5 Q4.out.lt)
        clear q5 hb5 HR3 Q4
        go_wp2_with fail
        refine (alive_any _ HR4.out.laid).mono ?_
        rintro e w6 ⟨rfl, hb6⟩
        have HB6 := Lib.hid (below_trans HR4.out.bel hb6)
        have y1 := run_string_of (P := Tryd.prog) (c := s) 22 9 5 Tryd.underlying22 Tryd.underlying5 Tryd.underlying9 (Rd.of_whole (HR4.out.want.below hb6 HR4.out.want.lt))
        have y2 := run_string_of (P := Tryd.prog) (c := s) 22 9 5 Tryd.underlying22 Tryd.underlying5 Tryd.underlying9 (Rd.of_whole (Q4'.out.below hb6 Q4'.out.lt))
        have y3 := run_string_of (P := Tryd.prog) (c := s) 22 9 5 Tryd.underlying22 Tryd.underlying5 Tryd.underlying9 (Rd.of_whole (Q5.out.below hb6 Q5.out.lt))
        clear hb6 HR4 Q4' Q5
        generalize strOf F s = S at y1 y2 y3
        go_wp2_with fail
        go_ret
        exact ⟨rfl, HB6.out⟩
    · have HR := Lib.hid hr
      have dm : decide ((i : Int) < (m : Int)) = false := decide_eq_false (by omega)
      clear hr
      have hcap0 : 0 = at' := by omega
      subst hcap0
      go_wp2_with fail

      refine (write_any g s (keyLen k + 0) S0 T (fun i => f (0 + i)) none 0 0 HS0.out HF0.out HTL.out (fun i => HF.out _) (by omega) (by omega) HG.out.1 (by omega) _ HR.out.laid HR.out.hash (.inl (by omega)) (fun h => by omega)).mono ?_
      rintro e w3 ⟨rfl, h3, g3⟩
      have h3' := h3.congr (t' := T) (fun i _ => HTC.out 0 i)
      rw [show keyLen k + 0 + 0 = keyLen k + (0 : Nat) by omega] at h3'
      have HR2 := Lib.hid (show PieceW w g G s S0 T (keyLen k + (0 : Nat)) F w3 from HR.out.write HG.out h3' g3)
      clear h3 h3' g3 HR
      go_wp2_with fail
      refine (hsum_any g s (keyLen k + (0 : Nat)) S0 T HS0.out HF0.out HTL.out (by omega) hs1 hs2 _ HR2.out.laid HR2.out.hash).mono ?_
      rintro e w4 ⟨G4, rfl, q4, _, hb4⟩
      rw [HFF.out] at q4
      have HR3 := Lib.hid (HR2.out.below hb4)
      have Q4 := Lib.hid q4
      clear q4 hb4 HR2
      go_wp2_with fail
      refine (hsum_any g s (keyLen k + (0 : Nat)) S0 T HS0.out HF0.out HTL.out (by omega) hs1 hs2 _ HR3.out.laid HR3.out.hash).mono ?_
      rintro e w5 ⟨G5, rfl, q5, _, hb5⟩
      rw [HFF.out] at q5
      have HR4 := Lib.hid (HR3.out.below hb5)
      have Q5 := Lib.hid q5
      have Q4' := Lib.hid (Q4.out.below hb5 Q4.out.lt)
      clear q5 hb5 HR3 Q4
      go_wp2_with fail
      refine (alive_any _ HR4.out.laid).mono ?_
      rintro e w6 ⟨rfl, hb6⟩
      have HB6 := Lib.hid (below_trans HR4.out.bel hb6)
      have y1 := run_string_of (P := Tryd.prog) (c := s) 22 9 5 Tryd.underlying22 Tryd.underlying5 Tryd.underlying9 (Rd.of_whole (HR4.out.want.below hb6 HR4.out.want.lt))
      have y2 := run_string_of (P := Tryd.prog) (c := s) 22 9 5 Tryd.underlying22 Tryd.underlying5 Tryd.underlying9 (Rd.of_whole (Q4'.out.below hb6 Q4'.out.lt))
      have y3 := run_string_of (P := Tryd.prog) (c := s) 22 9 5 Tryd.underlying22 Tryd.underlying5 Tryd.underlying9 (Rd.of_whole (Q5.out.below hb6 Q5.out.lt))
      clear hb6 HR4 Q4' Q5
      generalize strOf F s = S at y1 y2 y3
      go_wp2_with fail
      go_ret
      exact ⟨rfl, HB6.out⟩

set_option maxRecDepth 100000 in
set_option maxHeartbeats 2000000 in
theorem okII (s : Nat) (hs1 : 1 ≤ s) (hs2 : s ≤ 32) (A : Option Addr) (k c : Nat) (hk : k ≤ 32) (key : Nat → Nat) (hkey : ∀ i, key i < 256) (f : Nat → Nat) (hf : ∀ i, f i < 256) (hc2 : (0 : Nat) ≤ (0 : Nat)) (A3 : Option Addr) (m c3 : Nat) (hm : m ≤ 9223372036854775807) (cu : Nat → Nat) (hcu : ∀ i, cu i < 256) (w : World) (hL : Laid w) (hA : Rd w A k key) (x : Addr)  (hA2 : Rd w (some x) (0 : Nat) f) (hA3 : Rd w A3 m cu) :
    Calls Tryd.prog 6 #[.int .i64 s, .slice A k c, .slice (some x) (0 : Nat) (0 : Nat), .slice A3 m c3] w fun e w' => e = .returned (.bool true) ∧ Below w.heap.size w w' := by
  have d1 : decide ((3000 : Int) < ((0 : Nat) : Int)) = false := decide_eq_false (by omega)
  have d2 : decide ((100 : Int) < (k : Int)) = false := decide_eq_false (by omega)
  have hkl := keyLen_le k
  obtain ⟨S0, hS0⟩ : ∃ S0, firstL s k = S0 := ⟨_, rfl⟩
  obtain ⟨T, hT⟩ : ∃ T, withKey key k f = T := ⟨_, rfl⟩
  obtain ⟨F, hF⟩ : ∃ F, digest s key k f (0 : Nat) = F := ⟨_, rfl⟩
  have HFF := Lib.hid (show sumAt (finalL S0 T (keyLen k + (0 : Nat))) = F by rw [← hS0, ← hT, ← hF]; rfl)
  have HS0 := Lib.hid (show S0.length = 8 by rw [← hS0]; exact firstL_length s k)
  have HF0 := Lib.hid (show Fits S0 by rw [← hS0]; exact firstL_fits s k hs2 hk)
  have HTL := Lib.hid (show ∀ i, T i < 256 by rw [← hT]; exact withKey_lt hkey hf k)
  have HTC := Lib.hid (show ∀ p i, (if i < keyLen k + p then T i else f (p + (i - (keyLen k + p)))) = T i from fun p i => by
    split
    · rfl
    · rw [← hT, ← withKey_at key k f]
      congr 1
      omega)
  have C1 := Lib.hid (sum_ok s A (some x) k c (0 : Nat) (0 : Nat) key f hs1 hs2 hk hkey hf (by omega) hc2)
  have C2 := Lib.hid (new_any s A k c key f hs1 hs2 hk)
  rw [hF] at C1
  rw [hS0, hT] at C2
  have HL := Lib.hid hL
  have HA := Lib.hid hA
  have HA2 := Lib.hid hA2
  have HA3 := Lib.hid hA3
  have HCU := Lib.hid hcu
  have HF := Lib.hid hf
  skip
  clear hS0 hT hF hL hA hA2 hA3 hcu hf hkey
  go_enter Tryd.func6, Tryd.ntmps6
  go_wp2_with fail
  refine (C1.out w HL.out HA.out HA2.out).mono ?_
  rintro e w1 ⟨G, rfl, q1, hG, hb1⟩
  have Q1 := Lib.hid q1
  have HL1 := Lib.hid (laid_below HL.out hb1)
  have HA1 := Lib.hid (HA.out.below hb1 (Nat.le_refl _))
  have HB1 := Lib.hid hb1
  clear q1 hG hb1
  go_wp2_with fail
  refine (C2.out _ HL1.out HA1.out).mono ?_
  rintro e w2 ⟨rfl, h2, hb2⟩
  have HP := Lib.hid (show PieceW w w1.heap.size G s S0 T (keyLen k + 0) F w2 from ⟨h2, Q1.out.below hb2 Q1.out.lt, laid_below HL1.out hb2, below_trans HB1.out hb2⟩)
  have HG := Lib.hid (show 2 ≤ w1.heap.size ∧ w.heap.size ≤ w1.heap.size ∧ G ≠ w1.heap.size from ⟨HL1.out.size, HB1.out.size, by have := Q1.out.lt; omega⟩)
  clear h2 hb2 Q1 HL1 HA1 HB1 HL HA
  generalize w1.heap.size = g at HP HG ⊢
  go_wp2_with fail
  go_loopw [13, 14] (fun a j wr => ∃ i at' : Nat, j = .int .i64 i ∧ a = .int .i64 at' ∧ i ≤ m ∧ at' ≤ (0 : Nat) ∧ PieceW w g G s S0 T (keyLen k + at') F wr) (fun _ j _ => m - (intOf j).toNat)
  case atStart => exact ⟨0, 0, rfl, rfl, by omega, by omega, HP.out⟩
  case round =>
    obtain ⟨i, at', rfl, rfl, him', han', hr⟩ := hrel
    clear HP
    by_cases him : i < m
    · by_cases han : at' < (0 : Nat)
      · omega
      · have HR := Lib.hid hr
        have dm : decide ((i : Int) < (m : Int)) = true := decide_eq_true (by omega)
        have dn : decide ((at' : Int) < ((0 : Nat) : Int)) = false := decide_eq_false (by omega)
        clear hr
        have hcap0 : 0 = at' := by omega
        subst hcap0
        go_wp2_with fail

        refine (write_any g s (keyLen k + 0) S0 T (fun i => f (0 + i)) (some x) 0 0 HS0.out HF0.out HTL.out (fun i => HF.out _) (by omega) (by omega) HG.out.1 (by omega) _ HR.out.laid HR.out.hash (.inl (by omega)) (fun h => by omega)).mono ?_
        rintro e w3 ⟨rfl, h3, g3⟩
        have h3' := h3.congr (t' := T) (fun i _ => HTC.out 0 i)
        rw [show keyLen k + 0 + 0 = keyLen k + (0 : Nat) by omega] at h3'
        have HR2 := Lib.hid (show PieceW w g G s S0 T (keyLen k + (0 : Nat)) F w3 from HR.out.write HG.out h3' g3)
        clear h3 h3' g3 HR
        go_wp2_with fail
        refine (hsum_any g s (keyLen k + (0 : Nat)) S0 T HS0.out HF0.out HTL.out (by omega) hs1 hs2 _ HR2.out.laid HR2.out.hash).mono ?_
        rintro e w4 ⟨G4, rfl, q4, _, hb4⟩
        rw [HFF.out] at q4
        have HR3 := Lib.hid (HR2.out.below hb4)
        have Q4 := Lib.hid q4
        clear q4 hb4 HR2
        go_wp2_with fail
        refine (hsum_any g s (keyLen k + (0 : Nat)) S0 T HS0.out HF0.out HTL.out (by omega) hs1 hs2 _ HR3.out.laid HR3.out.hash).mono ?_
        rintro e w5 ⟨G5, rfl, q5, _, hb5⟩
        rw [HFF.out] at q5
        have HR4 := Lib.hid (HR3.out.below hb5)
        have Q5 := Lib.hid q5
        have Q4' := Lib.hid (Q4.out.below hb5 Q4.out.lt)
        clear q5 hb5 HR3 Q4
        go_wp2_with fail
        refine (alive_any _ HR4.out.laid).mono ?_
        rintro e w6 ⟨rfl, hb6⟩
        have HB6 := Lib.hid (below_trans HR4.out.bel hb6)
        have y1 := run_string_of (P := Tryd.prog) (c := s) 22 9 5 Tryd.underlying22 Tryd.underlying5 Tryd.underlying9 (Rd.of_whole (HR4.out.want.below hb6 HR4.out.want.lt))
        have y2 := run_string_of (P := Tryd.prog) (c := s) 22 9 5 Tryd.underlying22 Tryd.underlying5 Tryd.underlying9 (Rd.of_whole (Q4'.out.below hb6 Q4'.out.lt))
        have y3 := run_string_of (P := Tryd.prog) (c := s) 22 9 5 Tryd.underlying22 Tryd.underlying5 Tryd.underlying9 (Rd.of_whole (Q5.out.below hb6 Q5.out.lt))
        clear hb6 HR4 Q4' Q5
        generalize strOf F s = S at y1 y2 y3
        go_wp2_with fail
        go_ret
        exact ⟨rfl, HB6.out⟩
    · have HR := Lib.hid hr
      have dm : decide ((i : Int) < (m : Int)) = false := decide_eq_false (by omega)
      clear hr
      have hcap0 : 0 = at' := by omega
      subst hcap0
      go_wp2_with fail

      refine (write_any g s (keyLen k + 0) S0 T (fun i => f (0 + i)) (some x) 0 0 HS0.out HF0.out HTL.out (fun i => HF.out _) (by omega) (by omega) HG.out.1 (by omega) _ HR.out.laid HR.out.hash (.inl (by omega)) (fun h => by omega)).mono ?_
      rintro e w3 ⟨rfl, h3, g3⟩
      have h3' := h3.congr (t' := T) (fun i _ => HTC.out 0 i)
      rw [show keyLen k + 0 + 0 = keyLen k + (0 : Nat) by omega] at h3'
      have HR2 := Lib.hid (show PieceW w g G s S0 T (keyLen k + (0 : Nat)) F w3 from HR.out.write HG.out h3' g3)
      clear h3 h3' g3 HR
      go_wp2_with fail
      refine (hsum_any g s (keyLen k + (0 : Nat)) S0 T HS0.out HF0.out HTL.out (by omega) hs1 hs2 _ HR2.out.laid HR2.out.hash).mono ?_
      rintro e w4 ⟨G4, rfl, q4, _, hb4⟩
      rw [HFF.out] at q4
      have HR3 := Lib.hid (HR2.out.below hb4)
      have Q4 := Lib.hid q4
      clear q4 hb4 HR2
      go_wp2_with fail
      refine (hsum_any g s (keyLen k + (0 : Nat)) S0 T HS0.out HF0.out HTL.out (by omega) hs1 hs2 _ HR3.out.laid HR3.out.hash).mono ?_
      rintro e w5 ⟨G5, rfl, q5, _, hb5⟩
      rw [HFF.out] at q5
      have HR4 := Lib.hid (HR3.out.below hb5)
      have Q5 := Lib.hid q5
      have Q4' := Lib.hid (Q4.out.below hb5 Q4.out.lt)
      clear q5 hb5 HR3 Q4
      go_wp2_with fail
      refine (alive_any _ HR4.out.laid).mono ?_
      rintro e w6 ⟨rfl, hb6⟩
      have HB6 := Lib.hid (below_trans HR4.out.bel hb6)
      have y1 := run_string_of (P := Tryd.prog) (c := s) 22 9 5 Tryd.underlying22 Tryd.underlying5 Tryd.underlying9 (Rd.of_whole (HR4.out.want.below hb6 HR4.out.want.lt))
      have y2 := run_string_of (P := Tryd.prog) (c := s) 22 9 5 Tryd.underlying22 Tryd.underlying5 Tryd.underlying9 (Rd.of_whole (Q4'.out.below hb6 Q4'.out.lt))
      have y3 := run_string_of (P := Tryd.prog) (c := s) 22 9 5 Tryd.underlying22 Tryd.underlying5 Tryd.underlying9 (Rd.of_whole (Q5.out.below hb6 Q5.out.lt))
      clear hb6 HR4 Q4' Q5
      generalize strOf F s = S at y1 y2 y3
      go_wp2_with fail
      go_ret
      exact ⟨rfl, HB6.out⟩

set_option maxRecDepth 100000 in
set_option maxHeartbeats 2000000 in
theorem okIII (s : Nat) (hs1 : 1 ≤ s) (hs2 : s ≤ 32) (A : Option Addr) (k c : Nat) (hk : k ≤ 32) (key : Nat → Nat) (hkey : ∀ i, key i < 256) (n c2 : Nat) (f : Nat → Nat) (hf : ∀ i, f i < 256) (hn : n ≤ 3000) (hc2 : n ≤ c2) (A3 : Option Addr) (m c3 : Nat) (hm : m ≤ 9223372036854775807) (cu : Nat → Nat) (hcu : ∀ i, cu i < 256) (w : World) (hL : Laid w) (hA : Rd w A k key) (ab ao : Nat) (hB2 : TextAt w ab ao n c2 f) (hA2 : Rd w (some ⟨ab, ao, none⟩) n f) (hA3 : Rd w A3 m cu) :
    Calls Tryd.prog 6 #[.int .i64 s, .slice A k c, .slice (some ⟨ab, ao, none⟩) n c2, .slice A3 m c3] w fun e w' => e = .returned (.bool true) ∧ Below w.heap.size w w' := by
  have d1 : decide ((3000 : Int) < (n : Int)) = false := decide_eq_false (by omega)
  have d2 : decide ((100 : Int) < (k : Int)) = false := decide_eq_false (by omega)
  have hkl := keyLen_le k
  obtain ⟨S0, hS0⟩ : ∃ S0, firstL s k = S0 := ⟨_, rfl⟩
  obtain ⟨T, hT⟩ : ∃ T, withKey key k f = T := ⟨_, rfl⟩
  obtain ⟨F, hF⟩ : ∃ F, digest s key k f n = F := ⟨_, rfl⟩
  have HFF := Lib.hid (show sumAt (finalL S0 T (keyLen k + n)) = F by rw [← hS0, ← hT, ← hF]; rfl)
  have HS0 := Lib.hid (show S0.length = 8 by rw [← hS0]; exact firstL_length s k)
  have HF0 := Lib.hid (show Fits S0 by rw [← hS0]; exact firstL_fits s k hs2 hk)
  have HTL := Lib.hid (show ∀ i, T i < 256 by rw [← hT]; exact withKey_lt hkey hf k)
  have HTC := Lib.hid (show ∀ p i, (if i < keyLen k + p then T i else f (p + (i - (keyLen k + p)))) = T i from fun p i => by
    split
    · rfl
    · rw [← hT, ← withKey_at key k f]
      congr 1
      omega)
  have C1 := Lib.hid (sum_ok s A (some ⟨ab, ao, none⟩) k c n c2 key f hs1 hs2 hk hkey hf (by omega) hc2)
  have C2 := Lib.hid (new_any s A k c key f hs1 hs2 hk)
  rw [hF] at C1
  rw [hS0, hT] at C2
  have HL := Lib.hid hL
  have HA := Lib.hid hA
  have HA2 := Lib.hid hA2
  have HA3 := Lib.hid hA3
  have HCU := Lib.hid hcu
  have HF := Lib.hid hf
  have HB2 := Lib.hid hB2
  clear hB2
  clear hS0 hT hF hL hA hA2 hA3 hcu hf hkey
  go_enter Tryd.func6, Tryd.ntmps6
  go_wp2_with fail
  refine (C1.out w HL.out HA.out HA2.out).mono ?_
  rintro e w1 ⟨G, rfl, q1, hG, hb1⟩
  have Q1 := Lib.hid q1
  have HL1 := Lib.hid (laid_below HL.out hb1)
  have HA1 := Lib.hid (HA.out.below hb1 (Nat.le_refl _))
  have HB1 := Lib.hid hb1
  clear q1 hG hb1
  go_wp2_with fail
  refine (C2.out _ HL1.out HA1.out).mono ?_
  rintro e w2 ⟨rfl, h2, hb2⟩
  have HP := Lib.hid (show PieceW w w1.heap.size G s S0 T (keyLen k + 0) F w2 from ⟨h2, Q1.out.below hb2 Q1.out.lt, laid_below HL1.out hb2, below_trans HB1.out hb2⟩)
  have HG := Lib.hid (show 2 ≤ w1.heap.size ∧ w.heap.size ≤ w1.heap.size ∧ G ≠ w1.heap.size from ⟨HL1.out.size, HB1.out.size, by have := Q1.out.lt; omega⟩)
  clear h2 hb2 Q1 HL1 HA1 HB1 HL HA
  generalize w1.heap.size = g at HP HG ⊢
  go_wp2_with fail
  go_loopw [13, 14] (fun a j wr => ∃ i at' : Nat, j = .int .i64 i ∧ a = .int .i64 at' ∧ i ≤ m ∧ at' ≤ n ∧ PieceW w g G s S0 T (keyLen k + at') F wr) (fun _ j _ => m - (intOf j).toNat)
  case atStart => exact ⟨0, 0, rfl, rfl, by omega, by omega, HP.out⟩
  case round =>
    obtain ⟨i, at', rfl, rfl, him', han', hr⟩ := hrel
    clear HP
    by_cases him : i < m
    · by_cases han : at' < n
      · have HR := Lib.hid hr
        obtain ⟨cb, co, rfl, hcb, hcc⟩ : ∃ b off, A3 = some ⟨b, off, none⟩ ∧ b < w.heap.size ∧ ∀ i, i < m → w.cell? ⟨b, off + i, none⟩ = some (.int .u8 (cu i : Nat)) := by
          rcases HA3.out with h | h
          · omega
          · exact h
        have hci := (hr.bel.cell (p := ⟨cb, co + i, none⟩) hcb).trans (hcc i him)
        have hcu := HCU.out i
        obtain ⟨bb, hbb⟩ : ∃ bb, (bits .and .u8 ((cu i : Nat) : Int) 1 == 1) = bb := ⟨_, rfl⟩
        have HCI := Lib.hid (fun (X : World) (hb : Below w.heap.size w X) => (hb.cell (p := ⟨cb, co + i, none⟩) hcb).trans (hcc i him))
        clear hr hcc hcb
        generalize cu i = cv at hci hcu hbb HCI
        have imI : (i : Int) < (m : Int) := by omega
        have hmI : (m : Int) ≤ 9223372036854775807 := by omega
        have anI : (at' : Int) < (n : Int) := by omega
        have hle2 : at' ≤ n := by omega
        have hle : at' ≤ c2 := by omega
        have hcap2 : ¬ at' = c2 := by omega
        have HRD := Lib.hid (HB2.out.rest at' (by omega) HR.out.bel)
        by_cases hq : n - at' < cv
        · have hqd : decide (((n : Int) - (at' : Int)) < (cv : Int)) = true := decide_eq_true (by omega)
          have HQ := Lib.hid (show (n : Int) - (at' : Int) = ((n - at' : Nat) : Int) by omega)
          go_upto_region 16 with fail
          rw [HQ.out]
          obtain ⟨q, hqe⟩ : ∃ q, q = n - at' := ⟨_, rfl⟩
          rw [← hqe]
          have hqn : at' + q ≤ n := by omega
          have hq1 : q = n - at' ∨ q = cv := .inl hqe
          clear hqd hqe hq
          have hqc : at' + q ≤ c2 := by omega
          have hqI : (at' : Int) + (q : Int) ≤ (n : Int) := by omega
          have hqI2 : (at' : Int) + (q : Int) ≤ (c2 : Int) := by omega
          have HRQ := Lib.hid (rd_front HRD.out q (by omega))
          have HSL := Lib.hid (show at' + q - at' = q by omega)
          clear hci
          go_wp2_with fail
          try rw [HSL.out]
          refine (write_any g s (keyLen k + at') S0 T (fun i => f (at' + i)) (some ⟨ab, ao + at', none⟩) q (c2 - at') HS0.out HF0.out HTL.out (fun i => HF.out _) (by omega) (by omega) HG.out.1 (by omega) _ HR.out.laid HR.out.hash HRQ.out (fun h b o e => by injection e with e; injection e with e1 _; have := HB2.out.lt; have := HG.out.2.1; omega)).mono ?_
          rintro e w3 ⟨rfl, h3, g3⟩
          have h3' := h3.congr (t' := T) (fun i _ => HTC.out at' i)
          rw [Nat.add_assoc] at h3'
          have HR2 := Lib.hid (show PieceW w g G s S0 T (keyLen k + (at' + q)) F w3 from HR.out.write HG.out h3' g3)
          have hci := HCI.out w3 HR2.out.bel
          have ik : (i : Int) + 1 ≤ (m : Int) := by omega
          clear h3 h3' g3 HR HRD HRQ HCI
          rcases bb with _ | _
          · go_wp2_with fail
            go_roundw
            case rel => exact ⟨i + 1, at' + q, by go_num, by go_num, by omega, by omega, HR2.out⟩
            case measure => simp [intOf]; omega
          · go_wp2_with fail
            refine (hsum_any g s (keyLen k + (at' + q)) S0 T HS0.out HF0.out HTL.out (by omega) hs1 hs2 _ HR2.out.laid HR2.out.hash).mono ?_
            rintro e w4 ⟨G4, rfl, _, _, hb4⟩
            have HR3 := Lib.hid (HR2.out.below hb4)
            clear hb4 HR2 hci
            go_wp2_with fail
            go_roundw
            case rel => exact ⟨i + 1, at' + q, by go_num, by go_num, by omega, by omega, HR3.out⟩
            case measure => simp [intOf]; omega
        · have hqd : decide (((n : Int) - (at' : Int)) < (cv : Int)) = false := decide_eq_false (by omega)
          go_upto_region 16 with fail
          have hqn : at' + cv ≤ n := by omega
          obtain ⟨q, hqe⟩ : ∃ q, q = cv := ⟨_, rfl⟩
          rw [← hqe] at hqn ⊢
          clear hqd hqe hq
          have hqc : at' + q ≤ c2 := by omega
          have hqI : (at' : Int) + (q : Int) ≤ (n : Int) := by omega
          have hqI2 : (at' : Int) + (q : Int) ≤ (c2 : Int) := by omega
          have HRQ := Lib.hid (rd_front HRD.out q (by omega))
          have HSL := Lib.hid (show at' + q - at' = q by omega)
          clear hci
          go_wp2_with fail
          try rw [HSL.out]
          refine (write_any g s (keyLen k + at') S0 T (fun i => f (at' + i)) (some ⟨ab, ao + at', none⟩) q (c2 - at') HS0.out HF0.out HTL.out (fun i => HF.out _) (by omega) (by omega) HG.out.1 (by omega) _ HR.out.laid HR.out.hash HRQ.out (fun h b o e => by injection e with e; injection e with e1 _; have := HB2.out.lt; have := HG.out.2.1; omega)).mono ?_
          rintro e w3 ⟨rfl, h3, g3⟩
          have h3' := h3.congr (t' := T) (fun i _ => HTC.out at' i)
          rw [Nat.add_assoc] at h3'
          have HR2 := Lib.hid (show PieceW w g G s S0 T (keyLen k + (at' + q)) F w3 from HR.out.write HG.out h3' g3)
          have hci := HCI.out w3 HR2.out.bel
          have ik : (i : Int) + 1 ≤ (m : Int) := by omega
          clear h3 h3' g3 HR HRD HRQ HCI
          rcases bb with _ | _
          · go_wp2_with fail
            go_roundw
            case rel => exact ⟨i + 1, at' + q, by go_num, by go_num, by omega, by omega, HR2.out⟩
            case measure => simp [intOf]; omega
          · go_wp2_with fail
            refine (hsum_any g s (keyLen k + (at' + q)) S0 T HS0.out HF0.out HTL.out (by omega) hs1 hs2 _ HR2.out.laid HR2.out.hash).mono ?_
            rintro e w4 ⟨G4, rfl, _, _, hb4⟩
            have HR3 := Lib.hid (HR2.out.below hb4)
            clear hb4 HR2 hci
            go_wp2_with fail
            go_roundw
            case rel => exact ⟨i + 1, at' + q, by go_num, by go_num, by omega, by omega, HR3.out⟩
            case measure => simp [intOf]; omega
      · have HR := Lib.hid hr
        have dm : decide ((i : Int) < (m : Int)) = true := decide_eq_true (by omega)
        have dn : decide ((at' : Int) < (n : Int)) = false := decide_eq_false (by omega)
        clear hr
        by_cases hcap : c2 = at'
        · have e1 : n = at' := by omega
          have e2 : n = c2 := by omega
          clear hcap
          subst e1
          subst e2
          go_wp2_with fail
          refine (write_any g s (keyLen k + n) S0 T (fun i => f (n + i)) (some ⟨ab, ao, none⟩) 0 0 HS0.out HF0.out HTL.out (fun i => HF.out _) (by omega) (by omega) HG.out.1 (by omega) _ HR.out.laid HR.out.hash (.inl (by omega)) (fun h => by omega)).mono ?_
          rintro e w3 ⟨rfl, h3, g3⟩
          have h3' := h3.congr (t' := T) (fun i _ => HTC.out n i)
          rw [show keyLen k + n + 0 = keyLen k + n by omega] at h3'
          have HR2 := Lib.hid (show PieceW w g G s S0 T (keyLen k + n) F w3 from HR.out.write HG.out h3' g3)
          clear h3 h3' g3 HR
          go_wp2_with fail
          refine (hsum_any g s (keyLen k + n) S0 T HS0.out HF0.out HTL.out (by omega) hs1 hs2 _ HR2.out.laid HR2.out.hash).mono ?_
          rintro e w4 ⟨G4, rfl, q4, _, hb4⟩
          rw [HFF.out] at q4
          have HR3 := Lib.hid (HR2.out.below hb4)
          have Q4 := Lib.hid q4
          clear q4 hb4 HR2
          go_wp2_with fail
          refine (hsum_any g s (keyLen k + n) S0 T HS0.out HF0.out HTL.out (by omega) hs1 hs2 _ HR3.out.laid HR3.out.hash).mono ?_
          rintro e w5 ⟨G5, rfl, q5, _, hb5⟩
          rw [HFF.out] at q5
          have HR4 := Lib.hid (HR3.out.below hb5)
          have Q5 := Lib.hid q5
          have Q4' := Lib.hid (Q4.out.below hb5 Q4.out.lt)
          clear q5 hb5 HR3 Q4
          go_wp2_with fail
          refine (alive_any _ HR4.out.laid).mono ?_
          rintro e w6 ⟨rfl, hb6⟩
          have HB6 := Lib.hid (below_trans HR4.out.bel hb6)
          have y1 := run_string_of (P := Tryd.prog) (c := s) 22 9 5 Tryd.underlying22 Tryd.underlying5 Tryd.underlying9 (Rd.of_whole (HR4.out.want.below hb6 HR4.out.want.lt))
          have y2 := run_string_of (P := Tryd.prog) (c := s) 22 9 5 Tryd.underlying22 Tryd.underlying5 Tryd.underlying9 (Rd.of_whole (Q4'.out.below hb6 Q4'.out.lt))
          have y3 := run_string_of (P := Tryd.prog) (c := s) 22 9 5 Tryd.underlying22 Tryd.underlying5 Tryd.underlying9 (Rd.of_whole (Q5.out.below hb6 Q5.out.lt))
          clear hb6 HR4 Q4' Q5
          generalize strOf F s = S at y1 y2 y3
          go_wp2_with fail
          go_ret
          exact ⟨rfl, HB6.out⟩
        · have hcap2 : ¬ at' = c2 := fun h => hcap h.symm
          have hle : at' ≤ c2 := by omega
          have hle2 : at' ≤ n := by omega
          have HRD := Lib.hid (HB2.out.rest at' (by omega) HR.out.bel)
          go_wp2_with fail
          refine (write_any g s (keyLen k + at') S0 T (fun i => f (at' + i)) (some ⟨ab, ao + at', none⟩) (n - at') (c2 - at') HS0.out HF0.out HTL.out (fun i => HF.out _) (by omega) (by omega) HG.out.1 (by omega) _ HR.out.laid HR.out.hash HRD.out (fun h b o e => by injection e with e; injection e with e1 _; have := HB2.out.lt; have := HG.out.2.1; omega)).mono ?_
          rintro e w3 ⟨rfl, h3, g3⟩
          have h3' := h3.congr (t' := T) (fun i _ => HTC.out at' i)
          rw [show keyLen k + at' + (n - at') = keyLen k + n by omega] at h3'
          have HR2 := Lib.hid (show PieceW w g G s S0 T (keyLen k + n) F w3 from HR.out.write HG.out h3' g3)
          clear h3 h3' g3 HR
          go_wp2_with fail
          refine (hsum_any g s (keyLen k + n) S0 T HS0.out HF0.out HTL.out (by omega) hs1 hs2 _ HR2.out.laid HR2.out.hash).mono ?_
          rintro e w4 ⟨G4, rfl, q4, _, hb4⟩
          rw [HFF.out] at q4
          have HR3 := Lib.hid (HR2.out.below hb4)
          have Q4 := Lib.hid q4
          clear q4 hb4 HR2
          go_wp2_with fail
          refine (hsum_any g s (keyLen k + n) S0 T HS0.out HF0.out HTL.out (by omega) hs1 hs2 _ HR3.out.laid HR3.out.hash).mono ?_
          rintro e w5 ⟨G5, rfl, q5, _, hb5⟩
          rw [HFF.out] at q5
          have HR4 := Lib.hid (HR3.out.below hb5)
          have Q5 := Lib.hid q5
          have Q4' := Lib.hid (Q4.out.below hb5 Q4.out.lt)
          clear q5 hb5 HR3 Q4
          go_wp2_with fail
          refine (alive_any _ HR4.out.laid).mono ?_
          rintro e w6 ⟨rfl, hb6⟩
          have HB6 := Lib.hid (below_trans HR4.out.bel hb6)
          have y1 := run_string_of (P := Tryd.prog) (c := s) 22 9 5 Tryd.underlying22 Tryd.underlying5 Tryd.underlying9 (Rd.of_whole (HR4.out.want.below hb6 HR4.out.want.lt))
          have y2 := run_string_of (P := Tryd.prog) (c := s) 22 9 5 Tryd.underlying22 Tryd.underlying5 Tryd.underlying9 (Rd.of_whole (Q4'.out.below hb6 Q4'.out.lt))
          have y3 := run_string_of (P := Tryd.prog) (c := s) 22 9 5 Tryd.underlying22 Tryd.underlying5 Tryd.underlying9 (Rd.of_whole (Q5.out.below hb6 Q5.out.lt))
          clear hb6 HR4 Q4' Q5
          generalize strOf F s = S at y1 y2 y3
          go_wp2_with fail
          go_ret
          exact ⟨rfl, HB6.out⟩
    · have HR := Lib.hid hr
      have dm : decide ((i : Int) < (m : Int)) = false := decide_eq_false (by omega)
      clear hr
      by_cases hcap : c2 = at'
      · have e1 : n = at' := by omega
        have e2 : n = c2 := by omega
        clear hcap
        subst e1
        subst e2
        go_wp2_with fail
        refine (write_any g s (keyLen k + n) S0 T (fun i => f (n + i)) (some ⟨ab, ao, none⟩) 0 0 HS0.out HF0.out HTL.out (fun i => HF.out _) (by omega) (by omega) HG.out.1 (by omega) _ HR.out.laid HR.out.hash (.inl (by omega)) (fun h => by omega)).mono ?_
        rintro e w3 ⟨rfl, h3, g3⟩
        have h3' := h3.congr (t' := T) (fun i _ => HTC.out n i)
        rw [show keyLen k + n + 0 = keyLen k + n by omega] at h3'
        have HR2 := Lib.hid (show PieceW w g G s S0 T (keyLen k + n) F w3 from HR.out.write HG.out h3' g3)
        clear h3 h3' g3 HR
        go_wp2_with fail
        refine (hsum_any g s (keyLen k + n) S0 T HS0.out HF0.out HTL.out (by omega) hs1 hs2 _ HR2.out.laid HR2.out.hash).mono ?_
        rintro e w4 ⟨G4, rfl, q4, _, hb4⟩
        rw [HFF.out] at q4
        have HR3 := Lib.hid (HR2.out.below hb4)
        have Q4 := Lib.hid q4
        clear q4 hb4 HR2
        go_wp2_with fail
        refine (hsum_any g s (keyLen k + n) S0 T HS0.out HF0.out HTL.out (by omega) hs1 hs2 _ HR3.out.laid HR3.out.hash).mono ?_
        rintro e w5 ⟨G5, rfl, q5, _, hb5⟩
        rw [HFF.out] at q5
        have HR4 := Lib.hid (HR3.out.below hb5)
        have Q5 := Lib.hid q5
        have Q4' := Lib.hid (Q4.out.below hb5 Q4.out.lt)
        clear q5 hb5 HR3 Q4
        go_wp2_with fail
        refine (alive_any _ HR4.out.laid).mono ?_
        rintro e w6 ⟨rfl, hb6⟩
        have HB6 := Lib.hid (below_trans HR4.out.bel hb6)
        have y1 := run_string_of (P := Tryd.prog) (c := s) 22 9 5 Tryd.underlying22 Tryd.underlying5 Tryd.underlying9 (Rd.of_whole (HR4.out.want.below hb6 HR4.out.want.lt))
        have y2 := run_string_of (P := Tryd.prog) (c := s) 22 9 5 Tryd.underlying22 Tryd.underlying5 Tryd.underlying9 (Rd.of_whole (Q4'.out.below hb6 Q4'.out.lt))
        have y3 := run_string_of (P := Tryd.prog) (c := s) 22 9 5 Tryd.underlying22 Tryd.underlying5 Tryd.underlying9 (Rd.of_whole (Q5.out.below hb6 Q5.out.lt))
        clear hb6 HR4 Q4' Q5
        generalize strOf F s = S at y1 y2 y3
        go_wp2_with fail
        go_ret
        exact ⟨rfl, HB6.out⟩
      · have hcap2 : ¬ at' = c2 := fun h => hcap h.symm
        have hle : at' ≤ c2 := by omega
        have hle2 : at' ≤ n := by omega
        have HRD := Lib.hid (HB2.out.rest at' (by omega) HR.out.bel)
        go_wp2_with fail
        refine (write_any g s (keyLen k + at') S0 T (fun i => f (at' + i)) (some ⟨ab, ao + at', none⟩) (n - at') (c2 - at') HS0.out HF0.out HTL.out (fun i => HF.out _) (by omega) (by omega) HG.out.1 (by omega) _ HR.out.laid HR.out.hash HRD.out (fun h b o e => by injection e with e; injection e with e1 _; have := HB2.out.lt; have := HG.out.2.1; omega)).mono ?_
        rintro e w3 ⟨rfl, h3, g3⟩
        have h3' := h3.congr (t' := T) (fun i _ => HTC.out at' i)
        rw [show keyLen k + at' + (n - at') = keyLen k + n by omega] at h3'
        have HR2 := Lib.hid (show PieceW w g G s S0 T (keyLen k + n) F w3 from HR.out.write HG.out h3' g3)
        clear h3 h3' g3 HR
        go_wp2_with fail
        refine (hsum_any g s (keyLen k + n) S0 T HS0.out HF0.out HTL.out (by omega) hs1 hs2 _ HR2.out.laid HR2.out.hash).mono ?_
        rintro e w4 ⟨G4, rfl, q4, _, hb4⟩
        rw [HFF.out] at q4
        have HR3 := Lib.hid (HR2.out.below hb4)
        have Q4 := Lib.hid q4
        clear q4 hb4 HR2
        go_wp2_with fail
        refine (hsum_any g s (keyLen k + n) S0 T HS0.out HF0.out HTL.out (by omega) hs1 hs2 _ HR3.out.laid HR3.out.hash).mono ?_
        rintro e w5 ⟨G5, rfl, q5, _, hb5⟩
        rw [HFF.out] at q5
        have HR4 := Lib.hid (HR3.out.below hb5)
        have Q5 := Lib.hid q5
        have Q4' := Lib.hid (Q4.out.below hb5 Q4.out.lt)
        clear q5 hb5 HR3 Q4
        go_wp2_with fail
        refine (alive_any _ HR4.out.laid).mono ?_
        rintro e w6 ⟨rfl, hb6⟩
        have HB6 := Lib.hid (below_trans HR4.out.bel hb6)
        have y1 := run_string_of (P := Tryd.prog) (c := s) 22 9 5 Tryd.underlying22 Tryd.underlying5 Tryd.underlying9 (Rd.of_whole (HR4.out.want.below hb6 HR4.out.want.lt))
        have y2 := run_string_of (P := Tryd.prog) (c := s) 22 9 5 Tryd.underlying22 Tryd.underlying5 Tryd.underlying9 (Rd.of_whole (Q4'.out.below hb6 Q4'.out.lt))
        have y3 := run_string_of (P := Tryd.prog) (c := s) 22 9 5 Tryd.underlying22 Tryd.underlying5 Tryd.underlying9 (Rd.of_whole (Q5.out.below hb6 Q5.out.lt))
        clear hb6 HR4 Q4' Q5
        generalize strOf F s = S at y1 y2 y3
        go_wp2_with fail
        go_ret
        exact ⟨rfl, HB6.out⟩

set_option maxRecDepth 100000 in
theorem walk (size : Int) (A : Option Addr) (k c : Nat) (ks : List Int) (A2 : Option Addr) (n c2 : Nat) (zs : List Int) (A3 : Option Addr) (m c3 : Nat) (us : List Int) (w : World) (hL : Laid w) (_ : (Lit.int .i64 size).wf = true) (h1 : IsRow .u8 w A k c ks) (h2 : IsRow .u8 w A2 n c2 zs) (h3 : IsRow .u8 w A3 m c3 us) :
    Calls Tryd.prog 6 #[.int .i64 size, .slice A k c, .slice A2 n c2, .slice A3 m c3] w fun e w' => e = .returned (.bool true) ∧ Below w.heap.size w w' := by
  obtain ⟨key, hkey, hA, _, _⟩ := rd_of_row h1
  obtain ⟨f, hf, hA2, hc2, hsh⟩ := row_at h2
  obtain ⟨cu, hcu, hA3, hm1, hm2⟩ := rd_of_row h3
  have hm : m ≤ 9223372036854775807 := Nat.le_trans hm1 hm2
  clear h1 h2 h3 hm1 hm2
  by_cases d1 : 3000 < n
  · have d : decide ((3000 : Int) < (n : Int)) = true := decide_eq_true (by omega)
    have HL := Lib.hid hL
    clear hL hA hA2 hA3 hsh hkey hf hcu
    go_enter Tryd.func6, Tryd.ntmps6
    go_wp2_with fail
    refine (alive_any _ HL.out).mono ?_
    rintro e w1 ⟨rfl, hb⟩
    go_wp2_with fail
    go_ret
    exact ⟨rfl, hb⟩
  have d : decide ((3000 : Int) < (n : Int)) = false := decide_eq_false (by omega)
  by_cases d2 : 100 < k
  · have d2 : decide ((100 : Int) < (k : Int)) = true := decide_eq_true (by omega)
    have HL := Lib.hid hL
    clear hL hA hA2 hA3 hsh hkey hf hcu
    go_enter Tryd.func6, Tryd.ntmps6
    go_wp2_with fail
    refine (alive_any _ HL.out).mono ?_
    rintro e w1 ⟨rfl, hb⟩
    go_wp2_with fail
    go_ret
    exact ⟨rfl, hb⟩
  by_cases hr : 1 ≤ size ∧ size ≤ 32 ∧ k ≤ 32
  · obtain ⟨s, rfl⟩ : ∃ s : Nat, size = (s : Int) := ⟨size.toNat, by omega⟩
    rcases hsh with ⟨rfl, rfl, rfl⟩ | ⟨x, rfl, rfl, rfl⟩ | ⟨ab, ao, rfl, hB⟩
    · exact okI s (by omega) (by omega) A k c (by omega) key hkey f hf hc2 A3 m c3 hm cu hcu w hL hA hA2 hA3
    · exact okII s (by omega) (by omega) A k c (by omega) key hkey f hf hc2 A3 m c3 hm cu hcu w hL hA x hA2 hA3
    · exact okIII s (by omega) (by omega) A k c (by omega) key hkey n c2 f hf (by omega) hc2 A3 m c3 hm cu hcu w hL hA ab ao hB hA2 hA3
  · have d2 : decide ((100 : Int) < (k : Int)) = false := decide_eq_false (by omega)
    have HL := Lib.hid hL
    clear hL hA hA2 hA3 hsh hkey hf hcu
    go_enter Tryd.func6, Tryd.ntmps6
    go_wp2_with fail
    refine (sum_no size A A2 k c n c2 hr w).mono ?_
    rintro e w1 ⟨rfl, rfl⟩
    go_wp2_with fail
    refine (new_no size A k c hr w).mono ?_
    rintro e w1 ⟨rfl, rfl⟩
    go_wp2_with fail
    refine (alive_any _ HL.out).mono ?_
    rintro e w1 ⟨rfl, hb⟩
    go_wp2_with fail
    go_ret
    exact ⟨rfl, hb⟩

end BlakePieces
end Go.Proofs.YtljepgddmfelpaaDoor
