/- Arguments that are keys of a handshake, and slices of u32 numbers. -/
import Derived.Test.YtcncdejdpcelpaaPairAlive
import Derived.ChangeArms
import Derived.ChangeOld
import Derived.OpenShut
import Derived.Lib.SmallJoins
namespace Go.Proofs.Ytcncdejdpcelpaa
namespace PrArg
open Go.ChangeShapes Go.WideShapes Go.RowKit Mem Go.ChangeAt

section
variable {H : Type} {enc : TypeId × Value → H} {P : Program} {W : World} {base : Nat} {spare : Nat → Bool} {held : Bool}

theorem field_bytes {ty e : TypeId} {m o n : Nat} {cs : List Value} {y : DataW H × List MemPlace} (ht : P.underlying ty = some (.array m e)) (he : P.underlying e = some (.int .u8)) (hce : P.cellsOf e = 1) (hct : P.cellsOf ty = m)
    (g : DataW.trod enc P W base spare held n ty ((cs.drop o).take m) = some y) : ∀ i, i < m → ∃ a : Nat, cs[o + i]? = some (.int .u8 (a : Nat)) ∧ a < 256 := by
  obtain ⟨ys, k, _, _, _, hl, hy⟩ := DataW.trod_array ht g
  intro i hi
  have hxi := hy i hi
  rw [hce, List.getElem?_eq_getElem (by omega)] at hxi
  obtain ⟨a, ea, _, wa⟩ := DataW.trod_int he hxi
  obtain ⟨b, rfl, hb⟩ := nat_u8 wa
  refine ⟨b, ?_, hb⟩
  have h := congrArg (fun l : List Value => l[0]?) ea
  simp only [Nat.mul_one, List.getElem?_take, List.getElem?_drop, List.getElem?_cons_zero] at h
  rw [if_pos (by omega), if_pos (by omega), Nat.add_zero] at h
  exact h
theorem field_u32 {ty : TypeId} {o n : Nat} {cs : List Value} {y : DataW H × List MemPlace} (ht : P.underlying ty = some (.int .u32))
    (g : DataW.trod enc P W base spare held n ty ((cs.drop o).take 1) = some y) : ∃ a : Nat, cs[o]? = some (.int .u32 (a : Nat)) ∧ a < 4294967296 := by
  obtain ⟨a, ea, _, wa⟩ := DataW.trod_int ht g
  obtain ⟨b, rfl, hb⟩ := nat_u32 wa
  refine ⟨b, ?_, hb⟩
  have h := congrArg (fun l : List Value => l[0]?) ea
  simp only [List.getElem?_take, List.getElem?_drop, List.getElem?_cons_zero, Nat.add_zero] at h
  rw [if_pos (by omega)] at h
  exact h
theorem field_bool {ty : TypeId} {o n : Nat} {cs : List Value} {y : DataW H × List MemPlace} (ht : P.underlying ty = some .bool)
    (g : DataW.trod enc P W base spare held n ty ((cs.drop o).take 1) = some y) : ∃ b : Bool, cs[o]? = some (.bool b) := by
  obtain ⟨a, ea, _⟩ := DataW.trod_bool ht g
  refine ⟨a, ?_⟩
  have h := congrArg (fun l : List Value => l[0]?) ea
  simp only [List.getElem?_take, List.getElem?_drop, List.getElem?_cons_zero, Nat.add_zero] at h
  rw [if_pos (by omega)] at h
  exact h
theorem seg_bytes (cs : List Value) (o n : Nat) (key : ∀ i, i < n → ∃ a : Nat, cs[o + i]? = some (.int .u8 (a : Nat)) ∧ a < 256) : ∃ g : Nat → Nat, (∀ i, g i < 256) ∧ (cs.drop o).take n = byteCells g n := by
  refine ⟨fun i => match cs[o + i]? with | some (.int .u8 a) => a.toNat % 256 | _ => 0, ?_, ?_⟩
  · intro i
    dsimp only
    split
    · exact Nat.mod_lt _ (by omega)
    · omega
  · apply List.ext_getElem?
    intro i
    rw [List.getElem?_take, List.getElem?_drop]
    by_cases hi : i < n
    · obtain ⟨a, ha, hlt⟩ := key i hi
      rw [if_pos hi, byteCells_get _ _ _ hi, ha]
      congr 2
      show (a : Int) = ((((a : Int).toNat % 256 : Nat)) : Int)
      omega
    · rw [if_neg hi, List.getElem?_eq_none (by rw [byteCells_length]; omega)]

set_option maxHeartbeats 2000000 in
theorem open_keys {t e : TypeId} {f0 f1 f2 f3 f4 : Field} {v : Value} {d : DataW H} {p : List MemPlace} {r : Reach} {b0 : Nat} (ht : P.underlying t = some (.struct #[f0, f1, f2, f3, f4])) (he : P.underlying e = some (.int .u8)) (hce : P.cellsOf e = 1) (hct : P.cellsOf t = 67)
    (u0 : P.underlying f0.type = some (.array 32 e)) (c0 : P.cellsOf f0.type = 32) (o0 : f0.offset = 0)
    (u1 : P.underlying f1.type = some (.array 32 e)) (c1 : P.cellsOf f1.type = 32) (o1 : f1.offset = 32)
    (u2 : P.underlying f2.type = some (.int .u32)) (c2 : P.cellsOf f2.type = 1) (o2 : f2.offset = 64)
    (u3 : P.underlying f3.type = some (.int .u32)) (c3 : P.cellsOf f3.type = 1) (o3 : f3.offset = 65)
    (u4 : P.underlying f4.type = some .bool) (c4 : P.cellsOf f4.type = 1) (o4 : f4.offset = 66)
    (hok : Value.okWide P W r b0 t v) (h : DataW.Trod enc P W base spare held t v d p) :
    ∃ (s q : Nat → Nat) (l m : Nat) (one : Bool), (∀ i, s i < 256) ∧ (∀ i, q i < 256) ∧ l < 4294967296 ∧ m < 4294967296 ∧ v = .agg (Pr.keysL s q l m one).toArray := by
  obtain ⟨cs, rfl, hsz⟩ := okWide_struct ht hok
  rw [hct] at hsz
  obtain ⟨fuel, hf⟩ := h
  obtain ⟨xs, m, _, hx, _, hlen, hg⟩ := DataW.trod_struct ht hf
  have hL : (Value.agg cs).cells.toList = cs.toList := rfl
  rw [hL] at hg
  have g0 := hg 0 f0 rfl
  rw [o0, c0, List.getElem?_eq_getElem (by rw [hlen]; show 0 < 5; omega)] at g0
  have g1 := hg 1 f1 rfl
  rw [o1, c1, List.getElem?_eq_getElem (by rw [hlen]; show 1 < 5; omega)] at g1
  have g2 := hg 2 f2 rfl
  rw [o2, c2, List.getElem?_eq_getElem (by rw [hlen]; show 2 < 5; omega)] at g2
  have g3 := hg 3 f3 rfl
  rw [o3, c3, List.getElem?_eq_getElem (by rw [hlen]; show 3 < 5; omega)] at g3
  have g4 := hg 4 f4 rfl
  rw [o4, c4, List.getElem?_eq_getElem (by rw [hlen]; show 4 < 5; omega)] at g4
  have hl : cs.toList.length = 67 := by simpa using hsz
  obtain ⟨s, hs, es⟩ := seg_bytes cs.toList 0 32 (field_bytes u0 he hce c0 g0)
  obtain ⟨q, hq, eq⟩ := seg_bytes cs.toList 32 32 (field_bytes u1 he hce c1 g1)
  obtain ⟨l, el, ll⟩ := field_u32 u2 g2
  obtain ⟨k, ek, lk⟩ := field_u32 u3 g3
  obtain ⟨b, eb⟩ := field_bool u4 g4
  refine ⟨s, q, l, k, b, hs, hq, ll, lk, ?_⟩
  congr 1
  apply Array.ext'
  show cs.toList = Pr.keysL s q l k b
  have ed : cs.toList.drop 64 = [.int .u32 (l : Nat), .int .u32 (k : Nat), .bool b] := by
    apply List.ext_getElem?
    intro i
    rw [List.getElem?_drop]
    match i with
    | 0 => exact el
    | 1 => exact ek
    | 2 => exact eb
    | n + 3 => rw [List.getElem?_eq_none (by omega)]; rfl
  unfold Pr.keysL
  rw [← es, ← eq, ← ed, List.drop_zero]
  have h1 : (cs.toList.drop 32).take 32 ++ cs.toList.drop 64 = cs.toList.drop 32 := by
    have := List.take_append_drop 32 (cs.toList.drop 32)
    rwa [List.drop_drop] at this
  rw [h1, List.take_append_drop]

/-- a row of u32 numbers as a function -/
theorem rd32_of_row {w : World} {a : Option Addr} {len cap : Nat} {zs : List Int} (h : IsRow .u32 w a len cap zs) :
    ∃ f : Nat → Nat, len = 0 ∨ ∃ b off, a = some ⟨b, off, none⟩ ∧ b < w.heap.size ∧ ∀ i, i < len → w.cell? ⟨b, off + i, none⟩ = some (.int .u32 (f i : Nat)) := by
  rcases h with ⟨rfl, rfl, rfl, rfl⟩ | ⟨x, rfl, hl, hm, hz, hcell, hwz⟩
  · exact ⟨fun _ => 0, .inl rfl⟩
  · refine ⟨fun i => (zs.getD i 0).toNat, ?_⟩
    rcases Nat.eq_zero_or_pos len with h0 | h0
    · exact .inl h0
    · obtain ⟨b, off, spot⟩ := x
      have hc := hcell 0 (by omega)
      have hspot : spot = none := by simpa [Addr.add] using World.cell?_spot hc
      subst hspot
      refine .inr ⟨b, off, rfl, ?_, fun i hi => ?_⟩
      · rcases Nat.lt_or_ge b w.heap.size with k | k
        · exact k
        · exfalso
          simp [Addr.add, World.cell?, Array.getElem?_eq_none k] at hc
      · have hci := hcell i (by omega)
        have hadd : (⟨b, off, none⟩ : Addr).add i = ⟨b, off + i, none⟩ := by unfold Addr.add; split <;> simp_all
        rw [hadd] at hci
        have hil : i < zs.length := by omega
        have hw := hwz (zs.getD i 0) (by simp [List.getD, hil])
        obtain ⟨v, hv, hv2⟩ := nat_u32 hw
        show _ = some (Value.int .u32 (((zs.getD i 0).toNat : Nat) : Int))
        rw [hci, hv]
        rfl
theorem open_u32s {t e : TypeId} {a : Option Addr} {len cap : Nat} {d : DataW H} {p : List MemPlace} (ht : P.underlying t = some (.slice e)) (he : P.underlying e = some (.int .u32)) (hce : P.cellsOf e = 1)
    (h : DataW.Trod enc P W base (fun _ => true) held t (.slice a len cap) d p) : ∃ zs, IsRow .u32 W a len cap zs := by
  obtain ⟨fuel, hf⟩ := h
  rcases open_ints ht he hce hf with ⟨hcs, _⟩ | ⟨x, l, c, zs, hcs, _, hl, hm, hz, _, hcell, hwz⟩
  · simp [Value.cells] at hcs
    obtain ⟨rfl, rfl, rfl⟩ := hcs
    exact ⟨[], .inl ⟨rfl, rfl, rfl, rfl⟩⟩
  · simp [Value.cells] at hcs
    obtain ⟨rfl, rfl, rfl⟩ := hcs
    exact ⟨zs, .inr ⟨_, rfl, hl, hm, by simpa using hz, hcell, hwz⟩⟩
end
end PrArg
end Go.Proofs.Ytcncdejdpcelpaa
