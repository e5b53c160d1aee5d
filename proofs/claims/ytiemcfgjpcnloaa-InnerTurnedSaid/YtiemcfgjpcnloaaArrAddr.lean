/- An argument that is an address (a struct of a bool and sixteen bytes) reads as a bool and a function of the place. -/
import Derived.Test.YtiemcfgjpcnloaaKit
import Derived.Test.YtiemcfgjpcnloaaInnerCells
import Derived.ChangeArms
namespace Go.Proofs.Ytiemcfgjpcnloaa
namespace Arr
open Go.ChangeShapes Go.WideShapes Go.RowKit Mem

section
variable {H : Type} {enc : TypeId × Value → H} {P : Program} {W : World} {base : Nat} {spare : Nat → Bool} {held : Bool}

theorem open_addr {t tb ta e : TypeId} {f0 f1 : Field} {v : Value} {d : DataW H} {p : List MemPlace} {r : Reach} {b0 : Nat} (ht : P.underlying t = some (.struct #[f0, f1])) (h0 : f0.type = tb) (h1 : f1.type = ta) (o0 : f0.offset = 0) (o1 : f1.offset = 1)
    (hb : P.underlying tb = some .bool) (hcb : P.cellsOf tb = 1) (ha : P.underlying ta = some (.array 16 e)) (he : P.underlying e = some (.int .u8)) (hce : P.cellsOf e = 1) (hca : P.cellsOf ta = 16) (hct : P.cellsOf t = 17)
    (hok : Value.okWide P W r b0 t v) (h : DataW.Trod enc P W base spare held t v d p) : ∃ (s : Bool) (f : Nat → Nat), (∀ i, f i < 256) ∧ v = .agg (Inner.addrL s f).toArray := by
  obtain ⟨cs, rfl, hsz⟩ := okWide_struct ht hok
  rw [hct] at hsz
  obtain ⟨fuel, hf⟩ := h
  obtain ⟨xs, n, _, hx, _, hlen, hg⟩ := DataW.trod_struct ht hf
  have g0 := hg 0 f0 rfl
  have g1 := hg 1 f1 rfl
  rw [h0, o0, hcb, List.getElem?_eq_getElem (by rw [hlen]; show 0 < 2; omega)] at g0
  rw [h1, o1, hca, List.getElem?_eq_getElem (by rw [hlen]; show 1 < 2; omega)] at g1
  obtain ⟨s, e0, _⟩ := DataW.trod_bool hb g0
  obtain ⟨ys, m, _, _, _, hl, hy⟩ := DataW.trod_array ha g1
  have hL : (Value.agg cs).cells.toList = cs.toList := rfl
  rw [hL, List.drop_zero] at e0
  rw [hL] at hy
  have c0 : cs.toList[0]? = some (.bool s) := by
    have h := congrArg (fun l : List Value => l[0]?) e0
    simpa [List.getElem?_take] using h
  have key : ∀ i, i < 16 → ∃ a : Nat, cs.toList[i + 1]? = some (.int .u8 (a : Nat)) ∧ a < 256 := by
    intro i hi
    have hxi := hy i hi
    rw [hce, List.getElem?_eq_getElem (by omega)] at hxi
    obtain ⟨a, ea, _, wa⟩ := DataW.trod_int he hxi
    obtain ⟨b, rfl, hb⟩ := nat_u8 wa
    refine ⟨b, ?_, hb⟩
    have h := congrArg (fun l : List Value => l[0]?) ea
    simp only [Nat.mul_one, List.getElem?_take, List.getElem?_drop, List.getElem?_cons_zero] at h
    rw [if_pos (by omega), if_pos (by omega), Nat.add_zero, Nat.add_comm 1 i] at h
    exact h
  refine ⟨s, fun i => match cs.toList[i + 1]? with | some (.int .u8 a) => a.toNat % 256 | _ => 0, ?_, ?_⟩
  · intro i
    dsimp only
    split
    · exact Nat.mod_lt _ (by omega)
    · omega
  · congr 1
    apply Array.ext'
    apply List.ext_getElem?
    intro i
    unfold Inner.addrL
    cases i with
    | zero => exact c0
    | succ i =>
      rw [List.getElem?_cons_succ]
      by_cases hi : i < 16
      · obtain ⟨a, ha, hlt⟩ := key i hi
        rw [byteCells_get _ _ _ hi]
        rw [ha]
        congr 2
        show (a : Int) = ((((a : Int).toNat % 256 : Nat)) : Int)
        omega
      · rw [List.getElem?_eq_none (by simp; omega), List.getElem?_eq_none (by rw [byteCells_length]; omega)]
end
end Arr
end Go.Proofs.Ytiemcfgjpcnloaa
