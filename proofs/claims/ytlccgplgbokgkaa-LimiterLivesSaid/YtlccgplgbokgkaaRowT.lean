/- Arguments that are slices of 16-digit numbers read as lists of naturals. -/
import Derived.Test.YtlccgplgbokgkaaRowV
import Derived.ChangeArms
import Derived.OpenShut
import Derived.ChangeOld
import Derived.Deep.Slices
namespace Go.Proofs.Ytlccgplgbokgkaa
namespace RowA
open Go.ChangeShapes Go.WideShapes Go.RowKit Mem RowV

/-- a slice of numbers reads as a list of them -/
def IsNums (k : IntKind) (bound : Nat) (w : World) (a : Option Addr) (len : Nat) (l : List Nat) : Prop :=
  l.length = len ∧ len ≤ 9223372036854775807 ∧ (∀ v ∈ l, v < bound) ∧ RdV w a (l.map fun v => Value.int k (v : Nat))
theorem nat_u16 {a : Int} (h : (Lit.int .u16 a).wf = true) : ∃ v : Nat, a = (v : Int) ∧ v < 2 ^ 16 := by
  have h0 : IntKind.min .u16 = 0 := by decide
  have h1 : IntKind.max .u16 = 65535 := by decide
  have h : (decide (IntKind.min .u16 ≤ a) && decide (a ≤ IntKind.max .u16)) = true := h
  rw [h0, h1, Bool.and_eq_true, decide_eq_true_eq, decide_eq_true_eq] at h
  exact ⟨a.toNat, by omega, by omega⟩
theorem nums16_of_row {w : World} {a : Option Addr} {len cap : Nat} {zs : List Int} (h : IsRow .u16 w a len cap zs) : ∃ l, IsNums .u16 (2 ^ 16) w a len l := by
  rcases h with ⟨rfl, rfl, rfl, rfl⟩ | ⟨x, rfl, hl, hm, hz, hcell, hwz⟩
  · exact ⟨[], rfl, by omega, by simp, .inl rfl⟩
  · have hm' : cap ≤ 9223372036854775807 := by simpa [maxLen] using hm
    refine ⟨(zs.take len).map Int.toNat, by rw [List.length_map, List.length_take]; omega, by omega, ?_, ?_⟩
    · intro v hv
      obtain ⟨z, hz1, rfl⟩ := List.mem_map.1 hv
      obtain ⟨v, hv, hv2⟩ := nat_u16 (hwz z (List.mem_of_mem_take hz1))
      rw [hv]
      exact hv2
    · rcases Nat.eq_zero_or_pos len with h0 | h0
      · subst h0; exact .inl (by simp)
      · obtain ⟨b, off, spot⟩ := x
        have hc := hcell 0 (by omega)
        have hspot : spot = none := by simpa [Addr.add] using World.cell?_spot hc
        subst hspot
        refine .inr ⟨b, off, rfl, ?_, fun i v hv => ?_⟩
        · rcases Nat.lt_or_ge b w.heap.size with k | k
          · exact k
          · exfalso
            simp [Addr.add, World.cell?, Array.getElem?_eq_none k] at hc
        · have hil : i < len := by
            rcases Nat.lt_or_ge i len with k | k
            · exact k
            · rw [List.getElem?_eq_none (by rw [List.length_map, List.length_map, List.length_take]; omega)] at hv
              cases hv
          have hi : i < zs.length := by omega
          have hci := hcell i hi
          have hadd : (⟨b, off, none⟩ : Addr).add i = ⟨b, off + i, none⟩ := by unfold Addr.add; split <;> simp_all
          rw [hadd] at hci
          rw [hci, ← hv, List.getElem?_map, List.getElem?_map, List.getElem?_take_of_lt hil, List.getElem?_eq_getElem hi]
          have hw := hwz (zs.getD i 0) (by simp [List.getD, hi])
          have e : zs.getD i 0 = zs[i] := by simp [List.getD, hi]
          rw [e] at hw ⊢
          obtain ⟨u, hu, _⟩ := nat_u16 hw
          rw [hu]
          rfl
section
variable {H : Type} {enc : TypeId × Value → H} {P : Program} {W : World} {base : Nat} {held : Bool}
theorem open_u16s {t e : TypeId} {a : Option Addr} {len cap : Nat} {d : DataW H} {p : List MemPlace} (ht : P.underlying t = some (.slice e)) (he : P.underlying e = some (.int .u16)) (hce : P.cellsOf e = 1)
    (h : DataW.Trod enc P W base (fun _ => true) held t (.slice a len cap) d p) : ∃ l, IsNums .u16 (2 ^ 16) W a len l := by
  obtain ⟨fuel, hf⟩ := h
  refine Exists.elim (α := List Int) (p := fun zs => IsRow .u16 W a len cap zs) ?_ fun zs hz => nums16_of_row hz
  rcases open_ints ht he hce hf with ⟨hcs, _⟩ | ⟨x, l, c, zs, hcs, _, hl, hm, hz, _, hcell, hwz⟩
  · simp [Value.cells] at hcs
    obtain ⟨rfl, rfl, rfl⟩ := hcs
    exact ⟨[], .inl ⟨rfl, rfl, rfl, rfl⟩⟩
  · simp [Value.cells] at hcs
    obtain ⟨rfl, rfl, rfl⟩ := hcs
    exact ⟨zs, .inr ⟨_, rfl, hl, hm, by simpa using hz, hcell, hwz⟩⟩
end
end RowA
end Go.Proofs.Ytlccgplgbokgkaa
