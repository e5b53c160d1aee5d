/- Arguments that are slices of arrays of bytes, and slices of slices of bytes, opened to cells. Nothing of the program. -/
import Derived.Test.YtbmabfnjjflbnaaKit
import Derived.OpenShut
import Derived.WideShapes
import Derived.Deep.Slices
namespace Go.Proofs.Ytbmabfnjjflbnaa
namespace Arr
open Go.ChangeShapes Go.WideShapes Go.RowKit Mem Go.Deep

/-- a slice of arrays of n bytes each, that reads as F -/
def IsArrs (w : World) (a : Option Addr) (len cap n : Nat) (F : Nat → Nat → Nat) : Prop :=
  len ≤ cap ∧ cap ≤ maxLen ∧ (∀ i j, F i j < 256) ∧ (len = 0 ∨ ∃ b off, a = some ⟨b, off, none⟩ ∧ b < w.heap.size ∧ ∀ i, i < len → ∀ j, j < n → w.cell? ⟨b, off + (i * n + j), none⟩ = some (.int .u8 (F i j : Nat)))

/-- a slice of slices of bytes: where each lies, how long it is, and what it reads as -/
def IsSlices (w : World) (a : Option Addr) (len cap : Nat) (A : Nat → Option Addr) (N C : Nat → Nat) (F : Nat → Nat → Nat) : Prop :=
  len ≤ cap ∧ cap ≤ maxLen ∧ (∀ i j, F i j < 256) ∧ (∀ i, i < len → Rd w (A i) (N i) (F i) ∧ N i ≤ C i ∧ C i ≤ 9223372036854775807 ∧ (A i = none → N i = 0 ∧ C i = 0)) ∧
    (len = 0 ∨ ∃ b off, a = some ⟨b, off, none⟩ ∧ b < w.heap.size ∧ ∀ i, i < len → w.cell? ⟨b, off + i, none⟩ = some (.slice (A i) (N i) (C i)))

theorem row_nil {k : IntKind} {w : World} {a : Option Addr} {len cap : Nat} {zs : List Int} (h : IsRow k w a len cap zs) (e : a = none) : len = 0 ∧ cap = 0 := by
  rcases h with ⟨_, h1, h2, _⟩ | ⟨x, h1, _⟩
  · exact ⟨h1, h2⟩
  · rw [e] at h1
    cases h1
theorem block_lt {w : World} {p : Addr} {v : Value} (h : w.cell? p = some v) : p.block < w.heap.size := by
  rcases Nat.lt_or_ge p.block w.heap.size with k | k
  · exact k
  · exfalso
    unfold World.cell? at h
    rw [Array.getElem?_eq_none k] at h
    cases h

section
variable {H : Type} {enc : TypeId × Value → H} {P : Program} {w : World} {base : Nat} {spare : Nat → Bool} {held : Bool}

theorem open_arrays {t e u : TypeId} (n : Nat) (hn : 0 < n) {a : Option Addr} {len cap : Nat} {d : DataW H} {p : List MemPlace} (ht : P.underlying t = some (.slice e)) (he : P.underlying e = some (.array n u)) (hu : P.underlying u = some (.int .u8)) (hce : P.cellsOf e = n) (hcu : P.cellsOf u = 1)
    (h : DataW.Trod enc P w base spare held t (.slice a len cap) d p) : ∃ F, IsArrs w a len cap n F := by
  obtain ⟨fuel, hf⟩ := h
  rcases open_slice ht hf with ⟨hcs, _⟩ | ⟨x, l, c, m, k, D, Pl, hcs, _, hl, hc, hm, _, hi⟩
  · simp [Value.cells] at hcs
    obtain ⟨rfl, rfl, rfl⟩ := hcs
    exact ⟨fun _ _ => 0, Nat.le_refl _, by simp [maxLen], fun _ _ => Nat.zero_lt_succ 255, .inl rfl⟩
  · simp [Value.cells] at hcs
    obtain ⟨rfl, rfl, rfl⟩ := hcs
    have key : ∀ i, i < len → ∃ f : Nat → Nat, (∀ j, f j < 256) ∧ ∀ j, j < n → w.cell? (x.add (i * n + j)) = some (.int .u8 (f j : Nat)) := by
      intro i hil
      obtain ⟨cs', hcells, htr⟩ := hi i (by rw [hm]; split <;> omega)
      rw [hce] at hcells
      obtain ⟨_, hcl, hat⟩ := World.cells?_some hcells
      obtain ⟨xs, mm, _, _, _, hxl, hx⟩ := DataW.trod_array he htr
      have each : ∀ j, j < n → ∃ b : Nat, cs'[j]? = some (.int .u8 (b : Nat)) ∧ b < 256 := by
        intro j hj
        have hxj := hx j hj
        rw [hcu, List.getElem?_eq_getElem (by omega)] at hxj
        have e1 : (cs'.drop (j * 1)).take 1 = [cs'[j]'(by omega)] := by
          rw [Nat.mul_one, List.drop_eq_getElem_cons (by omega)]
          rfl
        rw [e1] at hxj
        obtain ⟨z, ez, _, wz⟩ := DataW.trod_int hu hxj
        obtain ⟨b, rfl, hb⟩ := nat_u8 wz
        refine ⟨b, ?_, hb⟩
        rw [List.getElem?_eq_getElem (by omega)]
        injection ez with ez
        rw [ez]
      refine ⟨fun j => match cs'[j]? with | some (.int .u8 z) => z.toNat % 256 | _ => 0, fun j => ?_, fun j hj => ?_⟩
      · dsimp only
        split
        · exact Nat.mod_lt _ (by omega)
        · omega
      · obtain ⟨b, hb, hlt⟩ := each j hj
        have h2 := hat j hj
        rw [add_add] at h2
        rw [h2]
        dsimp only
        rw [hb]
        dsimp only
        congr 2
        omega
    obtain ⟨F, hF⟩ := choose_lt (p := fun i (f : Nat → Nat) => (∀ j, f j < 256) ∧ ∀ j, j < n → w.cell? (x.add (i * n + j)) = some (.int .u8 (f j : Nat))) key
    refine ⟨fun i => if i < len then F i else fun _ => 0, hl, hc, fun i j => ?_, ?_⟩
    · dsimp only
      split
      · rename_i h
        exact (hF i h).1 j
      · exact Nat.zero_lt_succ 255
    · rcases Nat.eq_zero_or_pos len with h0 | h0
      · exact .inl h0
      · obtain ⟨b, off, spot⟩ := x
        have hc0 := (hF 0 h0).2 0 hn
        have hspot : spot = none := by simpa [Addr.add] using World.cell?_spot hc0
        subst hspot
        refine .inr ⟨b, off, rfl, ?_, fun i hil j hj => ?_⟩
        · have := block_lt hc0
          simpa [Addr.add] using this
        · have := (hF i hil).2 j hj
          dsimp only
          rw [if_pos hil, ← this]
          congr 1
          unfold Addr.add
          split <;> simp_all

theorem open_slices {t e u : TypeId} {a : Option Addr} {len cap : Nat} {d : DataW H} {p : List MemPlace} (ht : P.underlying t = some (.slice e)) (he : P.underlying e = some (.slice u)) (hu : P.underlying u = some (.int .u8)) (hce : P.cellsOf e = 1) (hcu : P.cellsOf u = 1)
    (h : DataW.Trod enc P w base (fun _ => true) held t (.slice a len cap) d p) : ∃ A N C F, IsSlices w a len cap A N C F := by
  obtain ⟨fuel, hf⟩ := h
  rcases open_slice ht hf with ⟨hcs, _⟩ | ⟨x, l, c, m, k, D, Pl, hcs, _, hl, hc, hm, _, hi⟩
  · simp [Value.cells] at hcs
    obtain ⟨rfl, rfl, rfl⟩ := hcs
    exact ⟨fun _ => none, fun _ => 0, fun _ => 0, fun _ _ => 0, Nat.le_refl _, by simp [maxLen], fun _ _ => Nat.zero_lt_succ 255, fun i hi => by omega, .inl rfl⟩
  · simp [Value.cells] at hcs
    obtain ⟨rfl, rfl, rfl⟩ := hcs
    have key : ∀ i, i < len → ∃ q : Option Addr × Nat × Nat × (Nat → Nat), w.cell? (x.add i) = some (.slice q.1 q.2.1 q.2.2.1) ∧ (∀ j, q.2.2.2 j < 256) ∧ Rd w q.1 q.2.1 q.2.2.2 ∧ q.2.1 ≤ q.2.2.1 ∧ q.2.2.1 ≤ 9223372036854775807 ∧ (q.1 = none → q.2.1 = 0 ∧ q.2.2.1 = 0) := by
      intro i hil
      obtain ⟨cs', hcells, htr⟩ := hi i (by rw [hm]; split <;> omega)
      rw [hce, Nat.mul_one] at hcells
      obtain ⟨_, hcl, hat⟩ := World.cells?_some hcells
      have h0 := hat 0 (by omega)
      rw [add_add, Nat.add_zero] at h0
      have hrow : ∃ A n c zs, cs' = [.slice A n c] ∧ IsRow .u8 w A n c zs := by
        rcases open_ints he hu hcu htr with ⟨hcs, _⟩ | ⟨y, l, c, zs, hcs, _, hl, hm, hz, _, hcell, hwz⟩
        · exact ⟨none, 0, 0, [], hcs, .inl ⟨rfl, rfl, rfl, rfl⟩⟩
        · exact ⟨some y, l, c, zs, hcs, .inr ⟨_, rfl, hl, hm, by simpa using hz, hcell, hwz⟩⟩
      obtain ⟨A, n, c, zs, rfl, hr⟩ := hrow
      obtain ⟨f, hf, hrd, hnc, hcm⟩ := rd_of_row hr
      exact ⟨(A, n, c, f), by simpa using h0, hf, hrd, hnc, hcm, fun e => row_nil hr e⟩
    haveI : Inhabited (Option Addr × Nat × Nat × (Nat → Nat)) := ⟨(none, 0, 0, fun _ => 0)⟩
    obtain ⟨Q, hQ⟩ := choose_lt key
    refine ⟨fun i => (Q i).1, fun i => (Q i).2.1, fun i => (Q i).2.2.1, fun i => if i < len then (Q i).2.2.2 else fun _ => 0, hl, hc, fun i j => ?_, fun i hil => ?_, ?_⟩
    · dsimp only
      split
      · rename_i h
        exact (hQ i h).2.1 j
      · exact Nat.zero_lt_succ 255
    · dsimp only
      rw [if_pos hil]
      exact ⟨(hQ i hil).2.2.1, (hQ i hil).2.2.2⟩
    · rcases Nat.eq_zero_or_pos len with h0 | h0
      · exact .inl h0
      · obtain ⟨b, off, spot⟩ := x
        have hc0 := (hQ 0 h0).1
        have hspot : spot = none := by simpa [Addr.add] using World.cell?_spot hc0
        subst hspot
        refine .inr ⟨b, off, rfl, ?_, fun i hil => ?_⟩
        · have := block_lt hc0
          simpa [Addr.add] using this
        · have := (hQ i hil).1
          rw [← this]
          congr 1
          unfold Addr.add
          split <;> simp_all
end

end Arr
end Go.Proofs.Ytbmabfnjjflbnaa
