/- An argument that is an array of bytes reads as a function of the place. Nothing of the program. -/
import Derived.Test.YtljepgddmfelpaaDoorMem
import Derived.OpenShut
import Derived.WideShapes
namespace Go.Proofs.YtljepgddmfelpaaDoor
namespace Arr
open Go.ChangeShapes Go.WideShapes Go.RowKit Mem

section
variable {H : Type} {enc : TypeId × Value → H} {P : Program} {W : World} {base : Nat} {spare : Nat → Bool} {held : Bool}

theorem open_bytes {t e : TypeId} (n : Nat) {v : Value} {d : DataW H} {p : List MemPlace} {r : Reach} {b0 : Nat} (ht : P.underlying t = some (.array n e)) (he : P.underlying e = some (.int .u8)) (hce : P.cellsOf e = 1) (hct : P.cellsOf t = n)
    (hok : Value.okWide P W r b0 t v) (h : DataW.Trod enc P W base spare held t v d p) : ∃ f : Nat → Nat, (∀ i, f i < 256) ∧ v = .agg (byteCells f n).toArray := by
  simp only [Value.okWide, ht] at hok
  obtain ⟨cs, rfl, h2, _⟩ := hok
  rw [hct] at h2
  obtain ⟨fuel, hf⟩ := h
  obtain ⟨xs, m, rfl, _, _, hl, hx⟩ := DataW.trod_array ht hf
  have key : ∀ i, i < n → ∃ a : Nat, cs.toList[i]? = some (.int .u8 (a : Nat)) ∧ a < 256 := by
    intro i hi
    have hxi := hx i hi
    rw [hce, List.getElem?_eq_getElem (by omega)] at hxi
    have e1 : ((Value.agg cs).cells.toList.drop (i * 1)).take 1 = [(cs[i]'(by omega) : Value)] := by
      simp only [Value.cells, Nat.mul_one]
      rw [List.drop_eq_getElem_cons (by simpa using (by omega : i < cs.size))]
      simp
    rw [e1] at hxi
    obtain ⟨a, ea, _, wa⟩ := DataW.trod_int he hxi
    obtain ⟨b, rfl, hb⟩ := nat_u8 wa
    refine ⟨b, ?_, hb⟩
    rw [Array.getElem?_toList, Array.getElem?_eq_getElem (by omega)]
    injection ea with ea
    rw [ea]
  refine ⟨fun i => match cs.toList[i]? with | some (.int .u8 a) => a.toNat % 256 | _ => 0, ?_, ?_⟩
  · intro i
    dsimp only
    split
    · exact Nat.mod_lt _ (by omega)
    · omega
  · congr 1
    apply Array.ext'
    apply List.ext_getElem?
    intro i
    by_cases hi : i < n
    · obtain ⟨a, ha, hlt⟩ := key i hi
      rw [byteCells_get _ _ _ hi]
      rw [ha]
      congr 2
      show (a : Int) = ((((a : Int).toNat % 256 : Nat)) : Int)
      omega
    · rw [List.getElem?_eq_none (by simp; omega), List.getElem?_eq_none (by rw [byteCells_length]; omega)]
end

end Arr
end Go.Proofs.YtljepgddmfelpaaDoor
