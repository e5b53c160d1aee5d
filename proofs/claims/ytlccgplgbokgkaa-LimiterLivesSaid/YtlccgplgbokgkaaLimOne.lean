/- A limiter that one address alone asks: what is carried through a law's loop. -/
import Derived.Test.YtlccgplgbokgkaaLimAlive
import Derived.Test.YtlccgplgbokgkaaLimTimes
namespace Go.Proofs.Ytlccgplgbokgkaa
namespace Lim
open Go.ChangeShapes Go.WideShapes Go.ChangeAt Go.RowKit Go.Maps
open Num Mem Words Chacha Aead Poly Adr Ops Quiet Stamp RowV

theorem own_two {w w' : World} {g b B : Nat} {e : TypeId} {v : Value} {n : Nat} {xs : List Value} (h : w.ownsRow B e 1 v n xs) (ht : Two g b w w') (hg : g < B) (hb : b < B) : w'.ownsRow B e 1 v n xs := by
  have hlt := own_lt h
  refine ⟨h.1, ?_⟩
  rcases h.2 with h0 | ⟨c, cap, cur, hv, hB, hh, rest⟩
  · exact Or.inl h0
  · refine Or.inr ⟨c, cap, cur, hv, hB, ?_, rest⟩
    have hc : c < w.heap.size := hlt c (by rw [hv]; rfl)
    rw [ht.block c hc (by omega) (by omega)]
    exact hh
theorem Two.over {g b : Nat} {x y z : World} (h : Two g b x y) (k : Below x.heap.size y z) : Two g b x z :=
  ⟨k.os.trans h.os, k.tape.trans h.tape, k.output.trans h.output, Nat.le_trans h.size k.size, fun i hi h1 h2 => (k.block i hi).trans (h.block i hi h1 h2)⟩
theorem LW.over {w w' : World} {g b B : Nat} {L : List Bk} {last : Int} {D : DataW Unit} (h : LW w g b L last D) (hb : Below B w w') (hg : g < B) (hB : b < B) : LW w' g b L last D := by
  refine ⟨(hb.block g hg).trans h.obj, ?_, h.ag, h.good⟩
  obtain ⟨es, clock, hh, F, hs, hD⟩ := h.own
  exact ⟨es, clock, (hb.block b hB).trans hh, F, hs, hD⟩

/-- the address of noughts asks -/
theorem allow_rate {K : Lit} (hK : placeO Try.prog 57 false nought = some K) (g b : Nat) (L : List Bk) (last : Int) (D : DataW Unit) (cnt : Nat) (th : List Int) (t : Int) (w : World) (h : LW w g b L last D) (hr : Rate K cnt th L last) (ht : okT t) (hl : last ≤ t) :
    Calls Try.prog 10 #[.pointer (some ⟨g, 0, none⟩), .agg (addrL false nought).toArray, .int .i64 t] w fun e w' =>
      ∃ r : Bool, e = .returned (.tuple #[.bool r, .int .i64 0]) ∧ (cnt < 5 → r = true) ∧ (last + 50 ≤ t → r = true) ∧ (∃ L' D', LW w' g b L' t D' ∧ Rate K (cnt + 1) (if r then th ++ [t] else th) L' t) ∧ Two g b w w' := by
  refine (allow_any g b L last D false nought nought_lt t w h).mono ?_
  rintro e w' ⟨rfl, ⟨D', hl'⟩, htw⟩
  rw [hK] at hl' ⊢
  obtain ⟨L', e1, h5, hR⟩ := hr.step ht hl
  rw [e1] at hl' ⊢
  refine ⟨_, rfl, fun hc => decide_eq_true (h5 hc), fun hw => decide_eq_true (waits hr hw), ⟨L', D', hl', ?_⟩, htw⟩
  simp only [decide_eq_true_eq]
  exact hR
end Lim
end Go.Proofs.Ytlccgplgbokgkaa
