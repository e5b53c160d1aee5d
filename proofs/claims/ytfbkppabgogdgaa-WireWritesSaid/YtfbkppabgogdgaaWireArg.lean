/- Arguments that are messages: their numbers, and the bytes behind them. -/
import Derived.Test.YtfbkppabgogdgaaWireMsg
import Derived.ChangeArms
import Derived.Lib.SmallJoins
namespace Go.Proofs.Ytfbkppabgogdgaa
namespace Arr
open Go.ChangeShapes Go.WideShapes Go.RowKit Mem Go.ChangeAt

section
variable {H : Type} {enc : TypeId × Value → H} {P : Program} {W : World} {base : Nat} {spare : Nat → Bool} {held : Bool}

theorem field_bytes {ty e : TypeId} {m o n : Nat} {cs : List Value} {y : DataW H × List MemPlace} (ht : P.underlying ty = some (.array m e)) (he : P.underlying e = some (.int .u8)) (hce : P.cellsOf e = 1) (hct : P.cellsOf ty = m)
    (g : DataW.trod enc P W base spare held n ty ((cs.drop o).take m) = some y) : ∀ i, i < m → ∃ a : Nat, cs[o + i]? = some (.int .u8 (a : Nat)) ∧ a < 256 := by
  obtain ⟨ys, k, _, _, _, hl, hy⟩ := DataW.trod_array ht g
  intro i hi
  have hxi := hy i hi
  rw [hce, List.getElem?_eq_getElem (by omega)] at hxi
  obtain ⟨a, ea, _, wa⟩ := DataW.trod_int he hxi
  obtain ⟨b, rfl, hb⟩ := nat_u8 wa
  refine ⟨b, ?_, hb⟩
  have h := congrArg (fun l : List Value => l[0]?) ea
  simp only [Nat.mul_one, List.getElem?_take, List.getElem?_drop, List.getElem?_cons_zero] at h
  rw [if_pos (by omega), if_pos (by omega), Nat.add_zero] at h
  exact h
theorem field_u32 {ty : TypeId} {o n : Nat} {cs : List Value} {y : DataW H × List MemPlace} (ht : P.underlying ty = some (.int .u32))
    (g : DataW.trod enc P W base spare held n ty ((cs.drop o).take 1) = some y) : ∃ a : Nat, cs[o]? = some (.int .u32 (a : Nat)) ∧ a < 4294967296 := by
  obtain ⟨a, ea, _, wa⟩ := DataW.trod_int ht g
  obtain ⟨b, rfl, hb⟩ := nat_u32 wa
  refine ⟨b, ?_, hb⟩
  have h := congrArg (fun l : List Value => l[0]?) ea
  simp only [List.getElem?_take, List.getElem?_drop, List.getElem?_cons_zero, Nat.add_zero] at h
  rw [if_pos (by omega)] at h
  exact h
theorem field_u64 {ty : TypeId} {o n : Nat} {cs : List Value} {y : DataW H × List MemPlace} (ht : P.underlying ty = some (.int .u64))
    (g : DataW.trod enc P W base spare held n ty ((cs.drop o).take 1) = some y) : ∃ a : Nat, cs[o]? = some (.int .u64 (a : Nat)) ∧ a < 18446744073709551616 := by
  obtain ⟨a, ea, _, wa⟩ := DataW.trod_int ht g
  obtain ⟨b, rfl, hb⟩ := nat_u64 wa
  refine ⟨b, ?_, hb⟩
  have h := congrArg (fun l : List Value => l[0]?) ea
  simp only [List.getElem?_take, List.getElem?_drop, List.getElem?_cons_zero, Nat.add_zero] at h
  rw [if_pos (by omega)] at h
  exact h
/-- cells that are bytes are those of a function -/
theorem tail_bytes (cs : List Value) (o n : Nat) (hs : cs.length = o + n) (key : ∀ i, i < n → ∃ a : Nat, cs[o + i]? = some (.int .u8 (a : Nat)) ∧ a < 256) : ∃ g : Nat → Nat, (∀ i, g i < 256) ∧ cs = cs.take o ++ byteCells g n := by
  refine ⟨fun i => match cs[o + i]? with | some (.int .u8 a) => a.toNat % 256 | _ => 0, ?_, ?_⟩
  · intro i
    dsimp only
    split
    · exact Nat.mod_lt _ (by omega)
    · omega
  · have e : cs.drop o = byteCells (fun i => match cs[o + i]? with | some (.int .u8 a) => a.toNat % 256 | _ => 0) n := by
      apply List.ext_getElem?
      intro i
      rw [List.getElem?_drop]
      by_cases hi : i < n
      · obtain ⟨a, ha, hlt⟩ := key i hi
        rw [byteCells_get _ _ _ hi]
        rw [ha]
        congr 2
        show (a : Int) = ((((a : Int).toNat % 256 : Nat)) : Int)
        omega
      · rw [List.getElem?_eq_none (by omega), List.getElem?_eq_none (by rw [byteCells_length]; omega)]
    rw [← e, List.take_append_drop]

set_option maxHeartbeats 2000000 in
theorem openHello {t e : TypeId} {f0 f1 f2 f3 f4 f5 : Field} {v : Value} {d : DataW H} {p : List MemPlace} {r : Reach} {b0 : Nat} (ht : P.underlying t = some (.struct #[f0, f1, f2, f3, f4, f5])) (he : P.underlying e = some (.int .u8)) (hce : P.cellsOf e = 1) (hct : P.cellsOf t = 141)
    (u0 : P.underlying f0.type = some (.int .u32)) (c0 : P.cellsOf f0.type = 1) (o0 : f0.offset = 0)
    (u1 : P.underlying f1.type = some (.array 32 e)) (c1 : P.cellsOf f1.type = 32) (o1 : f1.offset = 1)
    (u2 : P.underlying f2.type = some (.array 48 e)) (c2 : P.cellsOf f2.type = 48) (o2 : f2.offset = 33)
    (u3 : P.underlying f3.type = some (.array 28 e)) (c3 : P.cellsOf f3.type = 28) (o3 : f3.offset = 81)
    (u4 : P.underlying f4.type = some (.array 16 e)) (c4 : P.cellsOf f4.type = 16) (o4 : f4.offset = 109)
    (u5 : P.underlying f5.type = some (.array 16 e)) (c5 : P.cellsOf f5.type = 16) (o5 : f5.offset = 125)
    (hok : Value.okWide P W r b0 t v) (h : DataW.Trod enc P W base spare held t v d p) : ∃ (s : Nat) (g : Nat → Nat), s < 4294967296 ∧ (∀ i, g i < 256) ∧ v = .agg (Wire.one s g 140).toArray := by
  obtain ⟨cs, rfl, hsz⟩ := okWide_struct ht hok
  rw [hct] at hsz
  obtain ⟨fuel, hf⟩ := h
  obtain ⟨xs, m, _, hx, _, hlen, hg⟩ := DataW.trod_struct ht hf
  have hL : (Value.agg cs).cells.toList = cs.toList := rfl
  rw [hL] at hg
  have g0 := hg 0 f0 rfl
  rw [o0, c0, List.getElem?_eq_getElem (by rw [hlen]; show 0 < 6; omega)] at g0
  have g1 := hg 1 f1 rfl
  rw [o1, c1, List.getElem?_eq_getElem (by rw [hlen]; show 1 < 6; omega)] at g1
  have g2 := hg 2 f2 rfl
  rw [o2, c2, List.getElem?_eq_getElem (by rw [hlen]; show 2 < 6; omega)] at g2
  have g3 := hg 3 f3 rfl
  rw [o3, c3, List.getElem?_eq_getElem (by rw [hlen]; show 3 < 6; omega)] at g3
  have g4 := hg 4 f4 rfl
  rw [o4, c4, List.getElem?_eq_getElem (by rw [hlen]; show 4 < 6; omega)] at g4
  have g5 := hg 5 f5 rfl
  rw [o5, c5, List.getElem?_eq_getElem (by rw [hlen]; show 5 < 6; omega)] at g5
  obtain ⟨a0, e0, l0⟩ := field_u32 u0 g0
  have k0 := field_bytes u1 he hce c1 g1
  have k1 := field_bytes u2 he hce c2 g2
  have k2 := field_bytes u3 he hce c3 g3
  have k3 := field_bytes u4 he hce c4 g4
  have k4 := field_bytes u5 he hce c5 g5
  have key : ∀ i, i < 140 → ∃ a : Nat, cs.toList[1 + i]? = some (.int .u8 (a : Nat)) ∧ a < 256 := by
    intro i hi
    by_cases h0 : i < 32
    · have := k0 (i - 0) (by omega)
      rwa [show 1 + (i - 0) = 1 + i by omega] at this
    by_cases h1 : i < 80
    · have := k1 (i - 32) (by omega)
      rwa [show 33 + (i - 32) = 1 + i by omega] at this
    by_cases h2 : i < 108
    · have := k2 (i - 80) (by omega)
      rwa [show 81 + (i - 80) = 1 + i by omega] at this
    by_cases h3 : i < 124
    · have := k3 (i - 108) (by omega)
      rwa [show 109 + (i - 108) = 1 + i by omega] at this
    have := k4 (i - 124) (by omega)
    rwa [show 125 + (i - 124) = 1 + i by omega] at this
  obtain ⟨g, hg2, hv⟩ := tail_bytes cs.toList 1 140 (by simpa using hsz) key
  refine ⟨a0, g, l0, hg2, ?_⟩
  congr 1
  apply Array.ext'
  rw [hv]
  show _ = [_] ++ byteCells g 140
  congr 1
  apply List.ext_getElem?
  intro i
  rw [List.getElem?_take]
  rcases i with _ | i
  · rw [if_pos (by omega)]; exact e0
  · rw [if_neg (by omega)]; rfl

set_option maxHeartbeats 2000000 in
theorem openAnswer {t e : TypeId} {f0 f1 f2 f3 f4 f5 : Field} {v : Value} {d : DataW H} {p : List MemPlace} {r : Reach} {b0 : Nat} (ht : P.underlying t = some (.struct #[f0, f1, f2, f3, f4, f5])) (he : P.underlying e = some (.int .u8)) (hce : P.cellsOf e = 1) (hct : P.cellsOf t = 82)
    (u0 : P.underlying f0.type = some (.int .u32)) (c0 : P.cellsOf f0.type = 1) (o0 : f0.offset = 0)
    (u1 : P.underlying f1.type = some (.int .u32)) (c1 : P.cellsOf f1.type = 1) (o1 : f1.offset = 1)
    (u2 : P.underlying f2.type = some (.array 32 e)) (c2 : P.cellsOf f2.type = 32) (o2 : f2.offset = 2)
    (u3 : P.underlying f3.type = some (.array 16 e)) (c3 : P.cellsOf f3.type = 16) (o3 : f3.offset = 34)
    (u4 : P.underlying f4.type = some (.array 16 e)) (c4 : P.cellsOf f4.type = 16) (o4 : f4.offset = 50)
    (u5 : P.underlying f5.type = some (.array 16 e)) (c5 : P.cellsOf f5.type = 16) (o5 : f5.offset = 66)
    (hok : Value.okWide P W r b0 t v) (h : DataW.Trod enc P W base spare held t v d p) : ∃ (s r : Nat) (g : Nat → Nat), s < 4294967296 ∧ r < 4294967296 ∧ (∀ i, g i < 256) ∧ v = .agg (Wire.two s r g 80).toArray := by
  obtain ⟨cs, rfl, hsz⟩ := okWide_struct ht hok
  rw [hct] at hsz
  obtain ⟨fuel, hf⟩ := h
  obtain ⟨xs, m, _, hx, _, hlen, hg⟩ := DataW.trod_struct ht hf
  have hL : (Value.agg cs).cells.toList = cs.toList := rfl
  rw [hL] at hg
  have g0 := hg 0 f0 rfl
  rw [o0, c0, List.getElem?_eq_getElem (by rw [hlen]; show 0 < 6; omega)] at g0
  have g1 := hg 1 f1 rfl
  rw [o1, c1, List.getElem?_eq_getElem (by rw [hlen]; show 1 < 6; omega)] at g1
  have g2 := hg 2 f2 rfl
  rw [o2, c2, List.getElem?_eq_getElem (by rw [hlen]; show 2 < 6; omega)] at g2
  have g3 := hg 3 f3 rfl
  rw [o3, c3, List.getElem?_eq_getElem (by rw [hlen]; show 3 < 6; omega)] at g3
  have g4 := hg 4 f4 rfl
  rw [o4, c4, List.getElem?_eq_getElem (by rw [hlen]; show 4 < 6; omega)] at g4
  have g5 := hg 5 f5 rfl
  rw [o5, c5, List.getElem?_eq_getElem (by rw [hlen]; show 5 < 6; omega)] at g5
  obtain ⟨a0, e0, l0⟩ := field_u32 u0 g0
  obtain ⟨a1, e1, l1⟩ := field_u32 u1 g1
  have k0 := field_bytes u2 he hce c2 g2
  have k1 := field_bytes u3 he hce c3 g3
  have k2 := field_bytes u4 he hce c4 g4
  have k3 := field_bytes u5 he hce c5 g5
  have key : ∀ i, i < 80 → ∃ a : Nat, cs.toList[2 + i]? = some (.int .u8 (a : Nat)) ∧ a < 256 := by
    intro i hi
    by_cases h0 : i < 32
    · have := k0 (i - 0) (by omega)
      rwa [show 2 + (i - 0) = 2 + i by omega] at this
    by_cases h1 : i < 48
    · have := k1 (i - 32) (by omega)
      rwa [show 34 + (i - 32) = 2 + i by omega] at this
    by_cases h2 : i < 64
    · have := k2 (i - 48) (by omega)
      rwa [show 50 + (i - 48) = 2 + i by omega] at this
    have := k3 (i - 64) (by omega)
    rwa [show 66 + (i - 64) = 2 + i by omega] at this
  obtain ⟨g, hg2, hv⟩ := tail_bytes cs.toList 2 80 (by simpa using hsz) key
  refine ⟨a0, a1, g, l0, l1, hg2, ?_⟩
  congr 1
  apply Array.ext'
  rw [hv]
  show _ = [_, _] ++ byteCells g 80
  congr 1
  apply List.ext_getElem?
  intro i
  rw [List.getElem?_take]
  rcases i with _ | _ | i
  · rw [if_pos (by omega)]; exact e0
  · rw [if_pos (by omega)]; exact e1
  · rw [if_neg (by omega)]; rfl

set_option maxHeartbeats 2000000 in
theorem openCookie {t e : TypeId} {f0 f1 f2 : Field} {v : Value} {d : DataW H} {p : List MemPlace} {r : Reach} {b0 : Nat} (ht : P.underlying t = some (.struct #[f0, f1, f2])) (he : P.underlying e = some (.int .u8)) (hce : P.cellsOf e = 1) (hct : P.cellsOf t = 57)
    (u0 : P.underlying f0.type = some (.int .u32)) (c0 : P.cellsOf f0.type = 1) (o0 : f0.offset = 0)
    (u1 : P.underlying f1.type = some (.array 24 e)) (c1 : P.cellsOf f1.type = 24) (o1 : f1.offset = 1)
    (u2 : P.underlying f2.type = some (.array 32 e)) (c2 : P.cellsOf f2.type = 32) (o2 : f2.offset = 25)
    (hok : Value.okWide P W r b0 t v) (h : DataW.Trod enc P W base spare held t v d p) : ∃ (s : Nat) (g : Nat → Nat), s < 4294967296 ∧ (∀ i, g i < 256) ∧ v = .agg (Wire.one s g 56).toArray := by
  obtain ⟨cs, rfl, hsz⟩ := okWide_struct ht hok
  rw [hct] at hsz
  obtain ⟨fuel, hf⟩ := h
  obtain ⟨xs, m, _, hx, _, hlen, hg⟩ := DataW.trod_struct ht hf
  have hL : (Value.agg cs).cells.toList = cs.toList := rfl
  rw [hL] at hg
  have g0 := hg 0 f0 rfl
  rw [o0, c0, List.getElem?_eq_getElem (by rw [hlen]; show 0 < 3; omega)] at g0
  have g1 := hg 1 f1 rfl
  rw [o1, c1, List.getElem?_eq_getElem (by rw [hlen]; show 1 < 3; omega)] at g1
  have g2 := hg 2 f2 rfl
  rw [o2, c2, List.getElem?_eq_getElem (by rw [hlen]; show 2 < 3; omega)] at g2
  obtain ⟨a0, e0, l0⟩ := field_u32 u0 g0
  have k0 := field_bytes u1 he hce c1 g1
  have k1 := field_bytes u2 he hce c2 g2
  have key : ∀ i, i < 56 → ∃ a : Nat, cs.toList[1 + i]? = some (.int .u8 (a : Nat)) ∧ a < 256 := by
    intro i hi
    by_cases h0 : i < 24
    · have := k0 (i - 0) (by omega)
      rwa [show 1 + (i - 0) = 1 + i by omega] at this
    have := k1 (i - 24) (by omega)
    rwa [show 25 + (i - 24) = 1 + i by omega] at this
  obtain ⟨g, hg2, hv⟩ := tail_bytes cs.toList 1 56 (by simpa using hsz) key
  refine ⟨a0, g, l0, hg2, ?_⟩
  congr 1
  apply Array.ext'
  rw [hv]
  show _ = [_] ++ byteCells g 56
  congr 1
  apply List.ext_getElem?
  intro i
  rw [List.getElem?_take]
  rcases i with _ | i
  · rw [if_pos (by omega)]; exact e0
  · rw [if_neg (by omega)]; rfl

theorem openData {t e ts : TypeId} {f0 f1 f2 : Field} {v : Value} {d : DataW H} {p : List MemPlace} {r : Reach} {b0 : Nat} (ht : P.underlying t = some (.struct #[f0, f1, f2])) (hs : f2.type = ts) (hts : P.underlying ts = some (.slice e)) (he : P.underlying e = some (.int .u8)) (hce : P.cellsOf e = 1) (hct : P.cellsOf t = 3)
    (u0 : P.underlying f0.type = some (.int .u32)) (c0 : P.cellsOf f0.type = 1) (o0 : f0.offset = 0) (u1 : P.underlying f1.type = some (.int .u64)) (c1 : P.cellsOf f1.type = 1) (o1 : f1.offset = 1) (c2 : P.cellsOf f2.type = 1) (o2 : f2.offset = 2)
    (hok : Value.okWide P W r b0 t v) (h : DataW.Trod enc P W base (fun _ => true) held t v d p) : ∃ (x y : Nat) (A : Option Addr) (n c : Nat) (zs : List Int), x < 4294967296 ∧ y < 18446744073709551616 ∧ IsRow .u8 W A n c zs ∧ v = .agg #[.int .u32 (x : Nat), .int .u64 (y : Nat), .slice A n c] := by
  obtain ⟨cs, rfl, hsz⟩ := okWide_struct ht hok
  rw [hct] at hsz
  obtain ⟨fuel, hf⟩ := h
  obtain ⟨xs, m, _, hx, _, hlen, hg⟩ := DataW.trod_struct ht hf
  have hL : (Value.agg cs).cells.toList = cs.toList := rfl
  rw [hL] at hg
  have g0 := hg 0 f0 rfl
  rw [o0, c0, List.getElem?_eq_getElem (by rw [hlen]; show 0 < 3; omega)] at g0
  have g1 := hg 1 f1 rfl
  rw [o1, c1, List.getElem?_eq_getElem (by rw [hlen]; show 1 < 3; omega)] at g1
  have g2 := hg 2 f2 rfl
  rw [o2, c2, List.getElem?_eq_getElem (by rw [hlen]; show 2 < 3; omega), hs] at g2
  obtain ⟨x, e0, l0⟩ := field_u32 (spare := fun _ => true) u0 g0
  obtain ⟨y, e1, l1⟩ := field_u64 (spare := fun _ => true) u1 g1
  obtain ⟨a, cs0, rfl⟩ : ∃ a cs0, cs = #[a, cs0[0]!, cs0[1]!] := ⟨cs[0]!, #[cs[1]!, cs[2]!], by
    apply Array.ext'
    obtain ⟨l⟩ := cs
    match l, hsz with
    | [a, b, c], _ => rfl⟩
  simp only [List.getElem?_cons_zero, List.getElem?_cons_succ, Option.some.injEq] at e0 e1
  generalize cs0[0]! = b at *
  generalize cs0[1]! = c at *
  subst e0 e1
  have hc : (List.drop 2 [Value.int .u32 (x : Nat), Value.int .u64 (y : Nat), c]).take 1 = [c] := rfl
  have g2' : DataW.trod enc P W base (fun _ => true) held m ts [c] = some (xs[2]'(by rw [hlen]; show 2 < 3; omega)) := g2
  rcases open_ints hts he hce g2' with ⟨hcs, _⟩ | ⟨q, l, cp, zs, hcs, _, hl, hm, hz, _, hcell, hwz⟩
  · simp at hcs
    subst hcs
    exact ⟨x, y, none, 0, 0, [], l0, l1, .inl ⟨rfl, rfl, rfl, rfl⟩, rfl⟩
  · simp at hcs
    subst hcs
    exact ⟨x, y, _, l, cp, zs, l0, l1, .inr ⟨_, rfl, hl, hm, by simpa using hz, hcell, hwz⟩, rfl⟩
end
end Arr
end Go.Proofs.Ytfbkppabgogdgaa
