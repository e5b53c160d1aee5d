/- Slots whose pairs were born by a time; Seal and Install in all cases. -/
import Derived.Test.YtdhjgenijieeaaaSlAli
import Derived.Test.YtdhjgenijieeaaaSlOps
namespace Go.Proofs.Ytdhjgenijieeaaa
namespace Sl
open Go.ChangeShapes Go.WideShapes Go.ChangeAt Go.RowKit
open Num Mem Words Chacha Aead Poly Ops Quiet WinT Win Pr

def Inv (last : Int) (x : SS) : Prop := x.ok ∧ (x.hp = true → x.p.born ≤ last) ∧ (x.hc = true → x.c.born ≤ last) ∧ (x.hn = true → x.n.born ≤ last)
theorem inv_tidy {last : Int} {x : SS} (h : Inv last x) : Inv last (tidy x) := by
  obtain ⟨h0, h1, h2, h3⟩ := h
  refine ⟨tidy_ok h0, fun e => ?_, fun e => ?_, fun e => ?_⟩
  · show (if x.hp = true then x.p else noP).born ≤ last
    rw [if_pos (show x.hp = true from e)]; exact h1 e
  · show (if x.hc = true then x.c else noP).born ≤ last
    rw [if_pos (show x.hc = true from e)]; exact h2 e
  · show (if x.hn = true then x.n else noP).born ≤ last
    rw [if_pos (show x.hn = true from e)]; exact h3 e
theorem inv_no (last : Int) : Inv last noS := ⟨⟨noP_ok, noP_ok, noP_ok⟩, (fun e => by cases e), (fun e => by cases e), (fun e => by cases e)⟩
theorem newP_ok {s r : Nat → Nat} {l m : Nat} {one : Bool} {t : Int} (hs : ∀ i, s i < 256) (hr : ∀ i, r i < 256) (hl : l < 4294967296) (hm : m < 4294967296) (ht : rightT t = true) : (newP s r l m one t).ok := by
  have h : 0 ≤ t ∧ t ≤ 1099511627776 := by simpa [rightT] using ht
  refine ⟨hs, hr, hl, hm, ?_, ?_, (by decide : 0 < 18446744073709551616), (show (0 : Nat) < 2 ^ 64 ∧ (0 : Nat) < 2 ^ 64 ∧ (0 : Nat) < 2 ^ 64 by decide)⟩
  · show _ ≤ t; omega
  · show t ≤ _; omega
theorem inv_inst {last : Int} {x : SS} (h : Inv last x) {p : PS} (hp : p.ok) (hb : p.born ≤ last) : Inv last (inst x p) := by
  obtain ⟨⟨o1, o2, o3⟩, h1, h2, h3⟩ := h
  unfold inst
  split
  · exact inv_tidy ⟨⟨o1, o2, hp⟩, (fun e => by cases e), h2, fun _ => hb⟩
  · split
    · rename_i _ hn
      exact inv_tidy ⟨⟨o3, hp, o3⟩, fun _ => h3 hn, fun _ => hb, (fun e => by cases e)⟩
    · exact inv_tidy ⟨⟨o2, hp, o3⟩, h2, fun _ => hb, (fun e => by cases e)⟩
theorem inv_sealed {last : Int} {x : SS} (h : Inv last x) {t : Int} {n : Nat} (hs : sE x.c t n = 0) : Inv last (sealed x) := by
  obtain ⟨⟨o1, o2, o3⟩, h1, h2, h3⟩ := h
  have hlt : x.c.sent < spent := by
    unfold sE at hs
    by_cases ho : oldB x.c t = true
    · rw [if_pos ho] at hs; cases hs
    · rw [if_neg ho] at hs
      by_cases hq : spent ≤ x.c.sent
      · rw [if_pos hq] at hs; cases hs
      · omega
  have hsp : spent = 18446744073709543423 := rfl
  exact ⟨⟨o1, ⟨o2.hs, o2.hr, o2.hl, o2.hm, o2.b0, o2.b1, by show x.c.sent + 1 < _; omega, o2.hw⟩, o3⟩, h1, h2, h3⟩
theorem inv_open {last : Int} {x y : SS} {l : Nat} {nx : Bool} {E : Nat} (h : Inv last x) (ho : OpP x y l nx E) : Inv last y := by
  have hx := h
  obtain ⟨⟨o1, o2, o3⟩, h1, h2, h3⟩ := h
  by_cases hE : E = 0
  · obtain ⟨W, hW, h | h | h⟩ := ho.2 hE
    · rw [h.2.2]
      exact inv_tidy ⟨⟨o1, ⟨o2.hs, o2.hr, o2.hl, o2.hm, o2.b0, o2.b1, o2.ht, hW⟩, o3⟩, h1, h2, h3⟩
    · rw [h.2.2]
      exact inv_tidy ⟨⟨⟨o1.hs, o1.hr, o1.hl, o1.hm, o1.b0, o1.b1, o1.ht, hW⟩, o2, o3⟩, h1, h2, h3⟩
    · rw [h.2.2]
      have hn : x.hn = true := by
        have hf := h.2.1
        unfold findO at hf
        by_cases c1 : x.hc = true ∧ x.c.l = l
        · rw [if_pos c1] at hf; cases hf
        · rw [if_neg c1] at hf
          by_cases c2 : x.hn = true ∧ x.n.l = l
          · exact c2.1
          · rw [if_neg c2] at hf
            split at hf <;> cases hf
      have on : ({ x.n with win := W } : PS).ok := ⟨o3.hs, o3.hr, o3.hl, o3.hm, o3.b0, o3.b1, o3.ht, hW⟩
      exact inv_tidy ⟨⟨o2, on, on⟩, h2, fun _ => h3 hn, (fun e => by cases e)⟩
  · rw [ho.1 hE]; exact hx
theorem old_at {p : PS} {last : Int} (hb : p.born ≤ last) : oldB p (last + 180000) = true := by
  unfold oldB
  have e : decide (p.born ≤ last + 180000 - 180000) = true := decide_eq_true (by omega)
  rw [e, Bool.or_true, Bool.or_true]
theorem expire_all {x : SS} {t : Int} (hp : x.hp = true → oldB x.p t = true) (hc : x.hc = true → oldB x.c t = true) (hn : x.hn = true → oldB x.n t = true) : expire x t = noS := by
  have k : ∀ (b : Bool) (p : PS), (b = true → oldB p t = true) → (if oldB p t = true then false else b) = false := fun b p h => by
    by_cases ho : oldB p t = true
    · rw [if_pos ho]
    · rw [if_neg ho]
      cases b with
      | false => rfl
      | true => exact absurd (h rfl) ho
  unfold expire tidy e3 e2 e1
  dsimp only
  rw [k _ _ hp, k _ _ hc, k _ _ hn]
  rfl
/-- what Seal makes of slots -/
def SealP (x y : SS) (t : Int) (n E : Nat) : Prop := (y = x ∧ E = (if x.hc = true then sE x.c t n else 4) ∧ E ≠ 0) ∨ (y = tidy (sealed x) ∧ E = 0 ∧ x.hc = true ∧ sE x.c t n = 0)
def SealPost (x : SS) (t : Int) (n : Nat) (e : Ending) : Prop := ∃ (y : SS) (D : List Value) (E : Nat), e = .returned (.tuple #[slV y, .agg D.toArray, .int .i64 (E : Nat)]) ∧ D.length = 3 ∧ D.toArray.all (·.oneCell') = true ∧ SealP x y t n E
theorem seal_all' (x : SS) (hx : x.ok) (A : Option Addr) (n c : Nat) (f : Nat → Nat) (hf : ∀ i, f i < 256) (t : Int) (h0 : -9223372036854775808 ≤ t) (h1 : t ≤ 9223372036854775807) (w : World) (hr : Rd w A n f) :
    Calls Try.prog 8 #[slV x, .slice A n c, .int .i64 t] w fun e w' => SealPost x t n e ∧ Below w.heap.size w w' := by
  cases hc : x.hc with
  | false => exact (seal_none x hc A n c t w).mono fun e w' ⟨h, hb⟩ => ⟨⟨x, noD, 4, h, rfl, noD_one, .inl ⟨rfl, by rw [hc]; rfl, by decide⟩⟩, hb⟩
  | true =>
    by_cases h : sE x.c t n = 0
    · exact (seal_fine' x hc hx.2.1 A n c f hf t h0 h1 h w hr).mono fun e w' ⟨A', he, hb⟩ => ⟨⟨_, _, 0, he, rfl, data_one _ _ _ _ _, .inr ⟨rfl, rfl, hc, h⟩⟩, hb⟩
    · exact (seal_err x hc A n c t h0 h1 h w).mono fun e w' ⟨he, hb⟩ => ⟨⟨x, noD, _, he, rfl, noD_one, .inl ⟨rfl, by rw [if_pos hc], h⟩⟩, hb⟩
def InsPost (x : SS) (p : PS) (t : Int) (e : Ending) : Prop := ∃ (y : SS) (E : Nat), e = .returned (.tuple #[slV y, .int .i64 (E : Nat)]) ∧ ((y = x ∧ E = 1 ∧ rightT t = false) ∨ (y = inst x p ∧ E = 0 ∧ rightT t = true))
theorem install_all (x : SS) (s r : Nat → Nat) (l m : Nat) (one : Bool) (t : Int) (w : World) :
    Calls Try.prog 7 #[slV x, .agg (keysL s r l m one).toArray, .int .i64 t] w fun e w' => InsPost x (newP s r l m one t) t e ∧ Below w.heap.size w w' := by
  cases h : rightT t with
  | false => exact (install_no x s r l m one t h w).mono fun e w' ⟨he, hb⟩ => ⟨⟨x, 1, he, .inl ⟨rfl, rfl, h⟩⟩, hb⟩
  | true => exact (install_ok x s r l m one t h w).mono fun e w' ⟨he, hb⟩ => ⟨⟨_, 0, he, .inr ⟨rfl, rfl, h⟩⟩, hb⟩
theorem eq_noS (w : World) : (Op.equalIn 10000 36 (.agg (slL noS).toArray) (.agg (slL noS).toArray)).run Try.prog w = .ok true w := by kernel_rfl
theorem built_noS : Try.prog.built 36 [] = some (slL noS).toArray := by kernel_rfl
theorem zero_ops : ∃ Z : Array Value, Z.size = 73 ∧ ∀ w : World, (zeroValue 42).run Try.prog w = .ok (.agg Z) w :=
  ⟨((OpS.mk 0 (fun _ => 0) (fun _ => 0) 0 0 false none 0 0 (fun _ => 0) 0 0 none 0 0 (fun _ => 0) 0).cells).toArray, by rw [List.size_toArray, OpS.len], fun w => by kernel_rfl⟩
end Sl
end Go.Proofs.Ytdhjgenijieeaaa
