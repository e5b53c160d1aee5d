/- Joined texts (mkpack.py): OwnW AliveTwo RefChc RefDer Der Equal AliveThree. -/
import Derived.Test.YtdhjgenijieeaaaPkAead1
/-! from OwnW -/
namespace Go.Proofs.Ytdhjgenijieeaaa
namespace Mem
open Go.RowKit State
/-- the slice at block g of as many numbers as s has, with capacity c, is the call's own (from block B on), and reads as s -/
def OwnW (w : World) (B g c : Nat) (s : List Nat) : Prop := w.ownsRow B 25 1 (.slice (some ⟨g, 0, none⟩) s.length c) s.length (wcells s)
section
variable {w w' : World} {B g c : Nat} {s : List Nat}
theorem OwnW.drew (h : OwnW w B g c s) : OwnW w.drew B g c s := h
theorem OwnW.drewN (h : OwnW w B g c s) (n : Nat) : OwnW (w.drewN n) B g c s := h
theorem OwnW.put0 (h : OwnW w B g c s) (i : Nat) (_ : i < s.length) (x : Nat) : OwnW (w.setCell ⟨g, i, none⟩ (.int .u32 (x : Nat))) B g c (s.set i x) := by
  have k := World.ownsRow.stored h i (.int .u32 (x : Nat))
  unfold OwnW
  rw [List.length_set]
  have e : wcells (s.set i x) = (wcells s).set i (.int .u32 (x : Nat)) := by simp [wcells, List.map_set]
  rw [e]
  exact k.1
theorem OwnW.put (h : OwnW w B g c s) (i : Nat) (hi : i < s.length) (x : Nat) : OwnW (w.drew.setCell ⟨g, i, none⟩ (.int .u32 (x : Nat))) B g c (s.set i x) := (OwnW.drew h).put0 i hi x
theorem OwnW.lt (h : OwnW w B g c s) : g < w.heap.size := (World.ownsRow.lt h g rfl).2
theorem OwnW.below {B' : Nat} (h : OwnW w B g c s) (hb : Below B' w w') (hB : g < B') : OwnW w' B g c s := by
  refine ⟨h.1, ?_⟩
  rcases h.2 with ⟨k, _⟩ | ⟨g', cap, cur, e, hg, hh, r⟩
  · cases k
  · refine .inr ⟨g', cap, cur, e, hg, ?_, r⟩
    injection e with e1 e2 e3
    injection e1 with e1
    injection e1 with e1
    subst e1
    exact (hb.block g hB).trans hh
end
end Mem
end Go.Proofs.Ytdhjgenijieeaaa

/-! from AliveTwo -/
namespace Go.Proofs.Ytdhjgenijieeaaa
namespace Chacha
open Go.ChangeShapes Go.WideShapes Go.ChangeAt Go.RowKit
open Num Mem Words State Quiet
theorem whole_kept {w w' : World} {g : Nat} {t : TypeId} {cs : Array Value} (h : Whole w g t cs) (hb : Below w.heap.size w w') : Whole w' g t cs := h.below hb h.lt
def noughts : Nat → Nat := fun _ => 0
theorem noughts_lt (i : Nat) : noughts i < 256 := by unfold noughts; omega
theorem nought_block : blk noughts noughts 0 0 = 118 ∧ blk noughts noughts 0 1 = 184 ∧ blk noughts noughts 0 2 = 224 ∧ blk noughts noughts 0 3 = 173 := by decide +kernel
end Chacha
end Go.Proofs.Ytdhjgenijieeaaa

/-! from RefChc -/
namespace Go.Proofs.Ytdhjgenijieeaaa
namespace Ref
open Go.ChangeShapes Go.WideShapes Go.ChangeAt Go.RowKit
open Num Mem Words State Chacha Quiet
/-- the counter's bytes and a nonce -/
def rest (ctr : Nat) (nonce : Nat → Nat) (i : Nat) : Nat := if i < 4 then byteAt ctr i else nonce (i - 4)
end Ref
end Go.Proofs.Ytdhjgenijieeaaa

/-! from RefDer -/
namespace Go.Proofs.Ytdhjgenijieeaaa
namespace Ref
open Go.ChangeShapes Go.WideShapes Go.ChangeAt Go.RowKit
open Num Mem Words State Chacha Quiet
/-- what a key and a nonce make, byte by byte -/
def der (key nonce : Nat → Nat) (j : Nat) : Nat := byteAt ((stir (first key [le nonce 0 4, le nonce 4 4, le nonce 8 4, le nonce 12 4])).getD (if j < 16 then j / 4 else 8 + j / 4) 0) (j % 4)
theorem der_lt (key nonce : Nat → Nat) (j : Nat) : der key nonce j < 256 := byteAt_lt _ _
end Ref
end Go.Proofs.Ytdhjgenijieeaaa

/-! from Der -/
namespace Go.Proofs.Ytdhjgenijieeaaa
namespace Chacha
open Go.ChangeShapes Go.WideShapes Go.ChangeAt Go.RowKit
open Num Mem Words State Quiet Ref
theorem wraps (k : Nat) (h : k ≤ 4) : IntKind.i64.wrap (4 * (k : Int)) = 4 * (k : Int) ∧ IntKind.i64.wrap (16 + 4 * (k : Int)) = 16 + 4 * (k : Int) := by
  rw [IntKind.wrap_i64, IntKind.wrap_i64]
  omega
/-- the first n of each half -/
def hpart (G : Nat → Nat) (n m j : Nat) : Nat := if j < n ∨ (16 ≤ j ∧ j < 16 + m) then G j else 0
end Chacha
end Go.Proofs.Ytdhjgenijieeaaa

/-! from Equal -/
namespace Go.Proofs.Ytdhjgenijieeaaa
namespace Words
open Go.ChangeShapes Go.WideShapes Go.ChangeAt Go.RowKit
open Num Mem
theorem or_xor (u x y : Nat) (hu : u < 256) (hx : x < 256) (hy : y < 256) : bits .or .u8 (u : Int) (bits .xor .u8 (x : Int) (y : Int)) = ((u ||| (x ^^^ y) : Nat) : Int) := by
  have hxy : x ^^^ y < 2 ^ 8 := Nat.xor_lt_two_pow hx hy
  rw [u8_xor_nat _ _ hx hy, u8_or_nat _ _ hu hxy]
theorem or_zero (u x y : Nat) : u ||| (x ^^^ y) = 0 ↔ u = 0 ∧ x = y := by
  constructor
  · intro h
    have hb : ∀ i, u.testBit i = false ∧ (x ^^^ y).testBit i = false := by
      intro i
      have := congrArg (fun n => n.testBit i) h
      simpa using this
    refine ⟨Nat.eq_of_testBit_eq fun i => by simpa using (hb i).1, Nat.eq_of_testBit_eq fun i => ?_⟩
    have := (hb i).2
    simpa using this
  · rintro ⟨rfl, rfl⟩
    simp
set_option maxRecDepth 100000 in
theorem equal_any (A A' : Option Addr) (n m c c' : Nat) (f g : Nat → Nat) (hf : ∀ i, f i < 256) (hg : ∀ i, g i < 256) (hn : n ≤ 1000000) (w : World) (ha : Rd w A n f) (hb : Rd w A' m g)
    (r : Bool) (hr : r = true ↔ n = m ∧ ∀ i, i < n → f i = g i) :
    Calls Try.prog 40 #[.slice A n c, .slice A' m c'] w fun e w' => e = .returned (.bool r) ∧ ∃ k, w' = w.drewN k := by
  have HR := Lib.hid hr
  have HA := Lib.hid ha
  have HB := Lib.hid hb
  clear hr ha hb
  by_cases hnm : n = m
  · subst hnm
    have hne : (((n : Nat) : Int) != ((n : Nat) : Int)) = false := by simp
    have hr2 : r = true ↔ ∀ i, i < n → f i = g i := by rw [HR.out]; simp
    have HR2 := Lib.hid hr2
    clear hr2 HR
    go_enter Try.func40, Try.ntmps40
    go_wp2
    go_loopw [5, 6, 14] (fun v _ i wr => ∃ k u : Nat, k ≤ n ∧ i = .int .i64 k ∧ v = .int .u8 (u : Nat) ∧ u < 256 ∧ (u = 0 ↔ ∀ j, j < k → f j = g j) ∧ ∃ q, wr = w.drewN q) (fun _ _ i _ => n - (intOf i).toNat)
    case atStart => exact ⟨0, 0, Nat.zero_le _, rfl, rfl, by omega, ⟨fun _ j hj => absurd hj (by omega), fun _ => rfl⟩, 0, rfl⟩
    case round =>
      obtain ⟨k, u, hk, rfl, rfl, hu, hiff, q, rfl⟩ := hrel
      have HI := Lib.hid hiff
      clear hiff
      by_cases hlt : k < n
      · rcases HA.out with h0 | ⟨b, off, rfl, hbl, hc⟩
        · omega
        rcases HB.out with h0 | ⟨b', off', rfl, hbl', hc'⟩
        · omega
        have c1 := hc k hlt
        have c2 := hc' k hlt
        have hfk := hf k
        have hgk := hg k
        have HO := Lib.hid (or_xor u (f k) (g k) hu hfk hgk)
        have hltI : (k : Int) < (n : Int) := by omega
        have hkI : (0 : Int) ≤ (k : Int) := by omega
        have HF := Lib.hid hf
        have HG := Lib.hid hg
        clear hc hc' hf hg
        go_wp2_with fail
        go_quiet (fail)
        go_wp2_with fail
        go_roundw
        case rel =>
          have hlt8 : f k ^^^ g k < 2 ^ 8 := Nat.xor_lt_two_pow hfk hgk
          refine ⟨k + 1, u ||| (f k ^^^ g k), by omega, by go_num, by rw [HO.out], Nat.or_lt_two_pow (n := 8) hu hlt8, ?_, _, rfl⟩
          rw [or_zero, HI.out]
          constructor
          · rintro ⟨h1, h2⟩ j hj
            by_cases e : j = k
            · rw [e]; exact h2
            · exact h1 j (by omega)
          · intro h
            exact ⟨fun j hj => h j (by omega), h k (by omega)⟩
        case measure => simp [intOf]; omega
      · obtain rfl : k = n := by omega
        have hres : (((u : Nat) : Int) == 0) = r := by
          have h1 := HI.out
          have h2 := HR2.out
          cases r
          · have : u ≠ 0 := fun e => by
              have := h2.2 (h1.1 e)
              cases this
            simpa using this
          · have := h1.2 (h2.1 rfl)
            simpa using this
        have HRES := Lib.hid hres
        clear hres
        go_wp2
        go_ret
        exact ⟨by rw [← HRES.out]; rfl, by first | trivial | exact ⟨_, rfl⟩⟩
  · have hne : (((n : Nat) : Int) != ((m : Nat) : Int)) = true := by simp; omega
    have hrf : r = false := by
      cases r
      · rfl
      · exact absurd (HR.out.1 rfl).1 hnm
    subst hrf
    clear hnm HR
    go_enter Try.func40, Try.ntmps40
    go_wp2
    go_ret
    exact ⟨rfl, 0, rfl⟩
end Words
end Go.Proofs.Ytdhjgenijieeaaa

/-! from AliveThree -/
namespace Go.Proofs.Ytdhjgenijieeaaa
namespace Poly
open Go.ChangeShapes Go.WideShapes Go.ChangeAt Go.RowKit
open Num Mem Words PolyN Chacha Quiet
open Extern.Stop (cell)
def oneKey : Nat → Nat := fun i => if i = 0 then 1 else 0
def lone97 : Nat → Nat := fun i => if i = 0 then 97 else 0
def mark97 : Nat → Nat := fun i => if i = 0 then 97 else if i = 1 then 1 else 0
theorem oneKey_lt (i : Nat) : oneKey i < 256 := by unfold oneKey; split <;> omega
theorem lone97_lt (i : Nat) : lone97 i < 256 := by unfold lone97; split <;> omega
theorem mark97_lt (i : Nat) : mark97 i < 256 := by unfold mark97; split <;> (try split) <;> omega
def onePart (g : Nat) : Parts := { A := fun _ => some ⟨g, 0, none⟩, n := fun _ => 1, c := fun _ => 1, f := fun _ => lone97 }
theorem onePart_in (w : World) : (onePart w.heap.size).In ((w.alloc (.cells #[.int .u8 97] 5)).alloc (.cells #[.slice (some ⟨w.heap.size, 0, none⟩) 1 1] 38)) (some ⟨w.heap.size + 1, 0, none⟩) 1 := by
  refine ⟨fun i _ => ⟨?_, Nat.le_refl 1, by show 1 ≤ 1000000; omega⟩, fun _ => lone97_lt, .inr ⟨w.heap.size + 1, 0, rfl, by simp, fun i hi => ?_⟩⟩
  · have h : Rd (w.alloc (.cells #[.int .u8 97] 5)) (some ⟨w.heap.size, 0, none⟩) 1 lone97 := Rd.of_new rfl rfl
    exact h.below (below_alloc (Below.refl _ _) _) (Nat.le_refl _)
  · obtain rfl : i = 0 := by omega
    have h : Whole ((w.alloc (.cells #[.int .u8 97] 5)).alloc (.cells #[.slice (some ⟨w.heap.size, 0, none⟩) 1 1] 38)) (w.heap.size + 1) 38 #[.slice (some ⟨w.heap.size, 0, none⟩) 1 1] := whole_new _ _ (by simp)
    exact h.cell 0
theorem sum97 : ∀ i, i < 16 → sumAt oneKey lone97 1 i = mark97 i := by decide +kernel
theorem both97 (g : Nat) : ∀ i, i < 16 → tag (macs (rk oneKey) (onePart g) 1) oneKey i = lone97 i := by
  have : ∀ i, i < 16 → tag (mac (rk oneKey) true 0 lone97 1) oneKey i = lone97 i := by decide +kernel
  exact this
end Poly
end Go.Proofs.Ytdhjgenijieeaaa
