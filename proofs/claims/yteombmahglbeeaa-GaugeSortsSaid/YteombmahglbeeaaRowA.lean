/- Arguments that are slices of 64-digit numbers read as lists of naturals. -/
import Derived.Test.YteombmahglbeeaaRowV
import Derived.ChangeArms
import Derived.OpenShut
import Derived.ChangeOld
import Derived.Deep.Slices
namespace Go.Proofs.Yteombmahglbeeaa
namespace RowA
open Go.ChangeShapes Go.WideShapes Go.RowKit Mem RowV

/-- a slice of numbers reads as a list of them -/
def IsNums (k : IntKind) (bound : Nat) (w : World) (a : Option Addr) (len : Nat) (l : List Nat) : Prop :=
  l.length = len ∧ len ≤ 9223372036854775807 ∧ (∀ v ∈ l, v < bound) ∧ RdV w a (l.map fun v => Value.int k (v : Nat))

theorem nums_of_row {w : World} {a : Option Addr} {len cap : Nat} {zs : List Int} (h : IsRow .u64 w a len cap zs) : ∃ l, IsNums .u64 (2 ^ 64) w a len l := by
  rcases h with ⟨rfl, rfl, rfl, rfl⟩ | ⟨x, rfl, hl, hm, hz, hcell, hwz⟩
  · exact ⟨[], rfl, by omega, by simp, .inl rfl⟩
  · have hm' : cap ≤ 9223372036854775807 := by simpa [maxLen] using hm
    refine ⟨(zs.take len).map Int.toNat, by rw [List.length_map, List.length_take]; omega, by omega, ?_, ?_⟩
    · intro v hv
      obtain ⟨z, hz1, rfl⟩ := List.mem_map.1 hv
      obtain ⟨v, hv, hv2⟩ := nat_u64 (hwz z (List.mem_of_mem_take hz1))
      rw [hv]
      exact hv2
    · rcases Nat.eq_zero_or_pos len with h0 | h0
      · subst h0; exact .inl (by simp)
      · obtain ⟨b, off, spot⟩ := x
        have hc := hcell 0 (by omega)
        have hspot : spot = none := by simpa [Addr.add] using World.cell?_spot hc
        subst hspot
        refine .inr ⟨b, off, rfl, ?_, fun i v hv => ?_⟩
        · rcases Nat.lt_or_ge b w.heap.size with k | k
          · exact k
          · exfalso
            simp [Addr.add, World.cell?, Array.getElem?_eq_none k] at hc
        · have hil : i < len := by
            rcases Nat.lt_or_ge i len with k | k
            · exact k
            · rw [List.getElem?_eq_none (by rw [List.length_map, List.length_map, List.length_take]; omega)] at hv
              cases hv
          have hi : i < zs.length := by omega
          have hci := hcell i hi
          have hadd : (⟨b, off, none⟩ : Addr).add i = ⟨b, off + i, none⟩ := by unfold Addr.add; split <;> simp_all
          rw [hadd] at hci
          rw [hci, ← hv, List.getElem?_map, List.getElem?_map, List.getElem?_take_of_lt hil, List.getElem?_eq_getElem hi]
          have hw := hwz (zs.getD i 0) (by simp [List.getD, hi])
          have e : zs.getD i 0 = zs[i] := by simp [List.getD, hi]
          rw [e] at hw ⊢
          obtain ⟨u, hu, _⟩ := nat_u64 hw
          rw [hu]
          rfl
section
variable {H : Type} {enc : TypeId × Value → H} {P : Program} {W : World} {base : Nat} {held : Bool}
theorem open_u64s {t e : TypeId} {a : Option Addr} {len cap : Nat} {d : DataW H} {p : List MemPlace} (ht : P.underlying t = some (.slice e)) (he : P.underlying e = some (.int .u64)) (hce : P.cellsOf e = 1)
    (h : DataW.Trod enc P W base (fun _ => true) held t (.slice a len cap) d p) : ∃ l, IsNums .u64 (2 ^ 64) W a len l := by
  obtain ⟨fuel, hf⟩ := h
  refine Exists.elim (α := List Int) (p := fun zs => IsRow .u64 W a len cap zs) ?_ fun zs hz => nums_of_row hz
  rcases open_ints ht he hce hf with ⟨hcs, _⟩ | ⟨x, l, c, zs, hcs, _, hl, hm, hz, _, hcell, hwz⟩
  · simp [Value.cells] at hcs
    obtain ⟨rfl, rfl, rfl⟩ := hcs
    exact ⟨[], .inl ⟨rfl, rfl, rfl, rfl⟩⟩
  · simp [Value.cells] at hcs
    obtain ⟨rfl, rfl, rfl⟩ := hcs
    exact ⟨zs, .inr ⟨_, rfl, hl, hm, by simpa using hz, hcell, hwz⟩⟩
/-- a slice of measures reads as a list of their digits -/
def IsFlts (w : World) (a : Option Addr) (len : Nat) (l : List Nat) : Prop :=
  l.length = len ∧ len ≤ 9223372036854775807 ∧ (∀ v ∈ l, v < 18446744073709551616) ∧ RdV w a (l.map fun v => Value.float .f64 v)
theorem open_f64s {t e : TypeId} {a : Option Addr} {len cap : Nat} {d : DataW H} {p : List MemPlace} (ht : P.underlying t = some (.slice e)) (he : P.underlying e = some (.float .f64)) (hce : P.cellsOf e = 1)
    (h : DataW.Trod enc P W base (fun _ => true) held t (.slice a len cap) d p) : ∃ l, IsFlts W a len l := by
  obtain ⟨fuel, hf⟩ := h
  rcases Deep.open_slice1 ht hce hf with ⟨hcs, _⟩ | ⟨x, l, c, m, n, V, D, Pl, hcs, _, hl, hm, hmm, _, hx⟩
  · simp [Value.cells] at hcs
    obtain ⟨rfl, rfl, rfl⟩ := hcs
    exact ⟨[], rfl, by omega, by simp, .inl rfl⟩
  · simp [Value.cells] at hcs
    obtain ⟨rfl, rfl, rfl⟩ := hcs
    have hm' : cap ≤ 9223372036854775807 := by simpa [maxLen] using hm
    have hmc : m = cap := by rw [hmm]; rfl
    have each : ∀ i, i < m → ∃ b : Nat, V i = .float .f64 b ∧ b < 18446744073709551616 := fun i hi => by
      have hg := (hx i hi).2
      cases n with
      | zero => simp [DataW.trod] at hg
      | succ n =>
        cases hv : V i <;> simp [DataW.trod, he, hv] at hg
        rename_i k b
        obtain ⟨⟨hk, hw⟩, _⟩ := hg
        subst hk
        have h2 : decide (b < 2 ^ 64) = true := hw
        rw [decide_eq_true_eq] at h2
        exact ⟨b, rfl, h2⟩
    refine ⟨(List.range len).map fun i => match V i with | .float _ b => b | _ => 0, by simp, by omega, ?_, ?_⟩
    · intro v hv
      obtain ⟨i, hi, rfl⟩ := List.mem_map.1 hv
      rw [List.mem_range] at hi
      obtain ⟨b, hb, hb2⟩ := each i (by omega)
      simp only [hb]
      exact hb2
    · rcases Nat.eq_zero_or_pos len with h0 | h0
      · subst h0; exact .inl (by simp)
      · obtain ⟨b, off, spot⟩ := x
        have hc := (hx 0 (by omega)).1
        have hspot : spot = none := by simpa [Addr.add] using World.cell?_spot hc
        subst hspot
        refine .inr ⟨b, off, rfl, ?_, fun i v hv => ?_⟩
        · rcases Nat.lt_or_ge b W.heap.size with k | k
          · exact k
          · exfalso
            simp [Addr.add, World.cell?, Array.getElem?_eq_none k] at hc
        · have hil : i < len := by
            rcases Nat.lt_or_ge i len with k | k
            · exact k
            · rw [List.getElem?_eq_none (by simpa using k)] at hv
              cases hv
          obtain ⟨u, hu, _⟩ := each i (by omega)
          have hci := (hx i (by omega)).1
          have hadd : (⟨b, off, none⟩ : Addr).add i = ⟨b, off + i, none⟩ := by unfold Addr.add; split <;> simp_all
          rw [hadd] at hci
          rw [hci, ← hv, List.getElem?_map, List.getElem?_map, List.getElem?_range hil]
          simp [hu]
end
end RowA
end Go.Proofs.Yteombmahglbeeaa
