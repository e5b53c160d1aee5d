/- '==' of structs and arrays with themselves. Nothing of the program. -/
import Derived.Test.YtdhjgenijieeaaaKit
import Derived.DeepKeys
namespace Go.Proofs.Ytdhjgenijieeaaa
namespace EqLits
open Mem

theorem eq_of_lits {P : Program} {t : TypeId} {m D : Nat} {cs : Array Value} (hk : P.keyTypeAt m t = true) (hm : m ≤ 10000) (hf : (Value.agg cs).formed P t = true) (hl : (P.keyLits D t cs.toList).isSome = true) (w : World) : (Op.equalIn 10000 t (.agg cs) (.agg cs)).run P w = .ok true w := by
  obtain ⟨la, hla⟩ := Option.isSome_iff_exists.1 hl
  obtain ⟨r, hr, hiff⟩ := run_equalIn_deep (10000 - m) m t hk w D D (.agg cs) (.agg cs) la la hf hf hla hla
  rw [show 10000 - m + m = 10000 by omega] at hr
  rw [hr, hiff.2 rfl]
theorem mapM_some {α β : Type} (f : α → Option β) : ∀ (l : List α), (∀ a ∈ l, (f a).isSome = true) → (l.mapM f).isSome = true := by
  intro l
  induction l with
  | nil => intro _; rfl
  | cons a l ih =>
    intro h
    obtain ⟨b, hb⟩ := Option.isSome_iff_exists.1 (h a (by simp))
    obtain ⟨r, hr⟩ := Option.isSome_iff_exists.1 (ih (fun x hx => h x (by simp [hx])))
    simp [List.mapM_cons, hb, hr]
theorem lits_u64 {P : Program} {e : TypeId} (he : P.underlying e = some (.int .u64)) (d a : Nat) (ha : a < 18446744073709551616) : (P.keyLits (d + 1) e [.int .u64 (a : Nat)]).isSome = true := by
  have h0 : IntKind.min .u64 = 0 := by decide
  have h1 : IntKind.max .u64 = 18446744073709551615 := by decide
  have h : (Lit.int .u64 (a : Nat)).wf = true := by
    show (decide (IntKind.min .u64 ≤ (a : Int)) && decide ((a : Int) ≤ IntKind.max .u64)) = true
    rw [h0, h1, Bool.and_eq_true, decide_eq_true_eq, decide_eq_true_eq]
    omega
  unfold Program.keyLits
  simp only [he]
  rw [if_pos ⟨trivial, h⟩]
  rfl
theorem lits_array {P : Program} {t e : TypeId} {m : Nat} (ht : P.underlying t = some (.array m e)) (d : Nat) (cs : List Value) (hl : cs.length = P.cellsOf t) (h : ∀ i, i < m → (P.keyLits d e ((cs.drop (i * P.cellsOf e)).take (P.cellsOf e))).isSome = true) : (P.keyLits (d + 1) t cs).isSome = true := by
  unfold Program.keyLits
  simp only [ht]
  rw [if_pos hl, Option.isSome_map]
  exact mapM_some _ _ fun i hi => h i (List.mem_range.1 hi)
theorem lits_struct {P : Program} {t : TypeId} {fs : Array Field} (ht : P.underlying t = some (.struct fs)) (d : Nat) (cs : List Value) (hl : cs.length = P.cellsOf t) (hn : fs.all (·.name != "_") = true) (h : ∀ f ∈ fs.toList, (P.keyLits d f.type ((cs.drop f.offset).take (P.cellsOf f.type))).isSome = true) : (P.keyLits (d + 1) t cs).isSome = true := by
  unfold Program.keyLits
  simp only [ht]
  rw [if_pos ⟨hl, hn⟩, Option.isSome_map]
  exact mapM_some _ _ h
end EqLits
end Go.Proofs.Ytdhjgenijieeaaa
