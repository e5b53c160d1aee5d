/- Package wheel: slices.Insert of one timer, slices.Delete of one. -/
import Derived.Test.YtgbahkkccpcadaaWhRow
import Derived.Shelf.Spec.SlicesInsertGrow
import Derived.Deep.RegionLaw
import Derived.Maps.Range
namespace Go.Proofs.Ytgbahkkccpcadaa
namespace Wh
open Go.ChangeShapes Go.WideShapes Go.ChangeAt Go.RowKit
open Num Mem Words Chacha Aead Poly Quiet RowV RowS Ops

def putsA (cs : Array Value) : Nat → List Value → Array Value
  | _, [] => cs
  | o, v :: r => putsA (cs.setIfInBounds o v) (o + 1) r
theorem putsA_size : ∀ (vs : List Value) (cs : Array Value) (o : Nat), (putsA cs o vs).size = cs.size
  | [], _, _ => rfl
  | v :: r, cs, o => by rw [putsA, putsA_size r]; simp
theorem putsA_list : ∀ (vs : List Value) (cs : Array Value) (o : Nat), o + vs.length ≤ cs.size → (putsA cs o vs).toList = cs.toList.take o ++ (vs ++ cs.toList.drop (o + vs.length))
  | [], cs, o, _ => by simp [putsA]
  | v :: r, cs, o, h => by
    rw [List.length_cons] at h
    rw [putsA, putsA_list r _ _ (by simp; omega), Array.toList_setIfInBounds, List.take_set, List.drop_set_of_lt (by omega), List.length_cons, show o + 1 + r.length = o + (r.length + 1) by omega]
    have e : (cs.toList.take (o + 1)).set o v = cs.toList.take o ++ [v] := by
      have hlt : o < cs.toList.length := by rw [Array.length_toList]; omega
      rw [List.take_succ_eq_append_getElem hlt, List.set_append_right _ _ (by rw [List.length_take]; omega), List.length_take, Nat.min_eq_left (Nat.le_of_lt hlt), Nat.sub_self]
      rfl
    rw [e, List.append_assoc]
    rfl
theorem whole_puts {g : Nat} {t : TypeId} : ∀ (vs : List Value) {w : World} {cs : Array Value} (o : Nat), Whole w g t cs → Whole (w.setCells g o vs) g t (putsA cs o vs)
  | [], w, cs, o, h => h
  | v :: r, w, cs, o, h => by rw [World.setCells, putsA]; exact whole_puts r (o + 1) (h.put o v)
theorem grown_puts (g : Nat) : ∀ (vs : List Value) (w : World) (o : Nat), w.grownBy (w.setCells g o vs) (some g)
  | [], w, o => ⟨rfl, rfl, rfl, Nat.le_refl _, fun _ _ _ => rfl⟩
  | v :: r, w, o => by
    rw [World.setCells]
    have h1 : w.grownBy (w.setCell ⟨g, o, none⟩ v) (some g) := by
      have hb := Below.heap_setCell w ⟨g, o, none⟩ v
      exact ⟨rfl, rfl, rfl, by simp, fun i hi hne => hb i (fun e => hne (by rw [e]))⟩
    exact h1.andThen (grown_puts g r _ _) (fun j hj => .inr (by rw [hj]))
theorem run_copy_cellsN {P : Program} (w : World) (dT sT ty elem : TypeId) (b o dLen dCap : Nat) (a : Addr) (sLen sCap size : Nat) (cs : List Value)
    (hu : P.underlying dT = some (.slice elem)) (hs : (P.info? elem).map (·.size) = some size) (hn : cs.length = Nat.min sLen dLen * size)
    (hsrc : ∀ j v, cs[j]? = some v → w.cell? (a.add j) = some v) (hc : ∀ j, j < cs.length → (w.cell? ⟨b, o + j, none⟩).isSome = true) (hf : ∀ j, j < cs.length → w.frozen? ⟨b, o + j, none⟩ = false) (h1 : ∀ v ∈ cs, v.oneCell' = true) :
    (Builtin.copy_ #[dT, sT] ty #[.slice (some ⟨b, o, none⟩) dLen dCap, .slice (some a) sLen sCap]).run P w = .ok (goInt (Nat.min sLen dLen)) (w.setCells b o cs) := by
  have hl := run_loadCells_list (P := P) w a cs hsrc
  have hst := run_storeCells_cells (P := P) b o cs 0 w (by simpa using hc) (by simpa using hf) h1
  cases hq : P.info? elem with
  | none => simp [hq] at hs
  | some i =>
    have hi : i.size = size := by simpa [hq] using hs
    simp [Builtin.copy_, run_underlying hu, Builtin.lenOf, Builtin.firstCells, sizeOf, typeInfo, hq, hi, ← hn, hl, hst]
theorem run_clear_one {P : Program} (w : World) (t e ty : TypeId) (z : Value) (zs : List Value) (ht : P.underlying t = some (.slice e)) (hv : ∀ w, (zeroValue e).run P w = .ok z w) (hz : (Builtin.zeroCells z.cells 1).toList = zs) (h1 : ∀ v ∈ zs, v.oneCell' = true) (b o c : Nat)
    (hc : ∀ j, j < zs.length → (w.cell? ⟨b, o + j, none⟩).isSome = true) (hf : ∀ j, j < zs.length → w.frozen? ⟨b, o + j, none⟩ = false) :
    (Builtin.clear_ #[t] ty #[.slice (some ⟨b, o, none⟩) 1 c]).run P w = .ok (.tuple #[]) (w.setCells b o zs) := by
  have hst := run_storeCells_cells (P := P) b o zs 0 w (by simpa using hc) (by simpa using hf) h1
  simp only [Nat.add_zero] at hst
  simp [Builtin.clear_, run_underlying ht, hv, hz, hst]
theorem sizeT : (Try.prog.info? 38).map (·.size) = some 3 := by kernel_rfl
theorem sizeOfT (w : World) : (Go.sizeOf 38).run Try.prog w = .ok 3 w := by kernel_rfl
theorem zeroVT (w : World) : (zeroValue 38).run Try.prog w = .ok (.agg zeroT.toArray) w := by kernel_rfl
theorem addr_add (b i j : Nat) : (⟨b, i, none⟩ : Addr).add j = ⟨b, i + j, none⟩ := by unfold Addr.add; split <;> simp_all
/-- a row that has timers: its block -/
theorem RowT.some_ {w : World} {B c : Nat} {A : Option Addr} {L : List Tm} (h : RowT w B A c L) (hn : 0 < L.length) :
    ∃ g cur, A = some ⟨g, 0, none⟩ ∧ B ≤ g ∧ Whole w g 38 cur ∧ L.length ≤ c ∧ c ≤ maxLen ∧ cur.size = c * 3 ∧ cur.toList.take (L.length * 3) = flatT L := by
  rcases h.2 with ⟨_, h0⟩ | ⟨g, cap, cur, e1, hB, hh, h1, h2, h3, ht⟩
  · omega
  · injection e1 with e1 e2 e3
    subst e3
    exact ⟨g, cur, e1, hB, hh, h1, h2, h3, ht⟩
theorem RowT.mk_ {w : World} {B g c : Nat} {L : List Tm} {cur : Array Value} (hB : B ≤ g) (h : Whole w g 38 cur) (h1 : L.length ≤ c) (h2 : c ≤ maxLen) (h3 : cur.size = c * 3) (ht : cur.toList.take (L.length * 3) = flatT L) : RowT w B (some ⟨g, 0, none⟩) c L :=
  ⟨flatT_length L, .inr ⟨g, c, cur, rfl, hB, h, h1, h2, h3, ht⟩⟩

set_option maxRecDepth 100000 in
set_option maxHeartbeats 4000000 in
/-- Delete of one -/
theorem delete_any {w : World} {B c g : Nat} {L : List Tm} {cur : Array Value} (i : Nat) (hi : i < L.length) (hL : L.length ≤ 1000000) (hw : Whole w g 38 cur) (h1 : L.length ≤ c) (h2 : c ≤ maxLen) (h3 : cur.size = c * 3) (ht : cur.toList.take (L.length * 3) = flatT L) (hB : B ≤ g) :
    Calls Try.prog 33 #[.slice (some ⟨g, 0, none⟩) L.length c, .int .i64 i, .int .i64 (i + 1 : Nat)] w fun e w' =>
      e = .returned (.slice (some ⟨g, 0, none⟩) (L.length - 1) c) ∧ RowT w' B (some ⟨g, 0, none⟩) c (L.take i ++ L.drop (i + 1)) ∧ w.grownBy w' (some g) := by
  obtain ⟨n, hn⟩ : ∃ n, L.length = n := ⟨_, rfl⟩
  obtain ⟨j, hij⟩ : ∃ j, i + 1 = j := ⟨_, rfl⟩
  rw [hij]
  obtain ⟨i0, hi0, hz0, hz1, hz2⟩ := info_parts infoT
  have hmax : c ≤ 9223372036854775807 := by have : maxLen = 9223372036854775807 := rfl; omega
  obtain ⟨news, hnews⟩ : ∃ news, news = flatT (L.drop j) := ⟨_, rfl⟩
  have hlen : news.length = (n - j) * 3 := by rw [hnews, flatT_length, List.length_drop, hn]
  have hcell : ∀ j v, (flatT L)[j]? = some v → w.drew.cell? ⟨g, j, none⟩ = some v := fun j v hj => by
    rw [hw.drew.cell, ← Array.getElem?_toList]
    rw [← ht, List.getElem?_take] at hj
    split at hj
    · exact hj
    · cases hj
  have hs1 : ∀ (W : World) (cs : Array Value), Whole W g 38 cs → cs.size = c * 3 → ∀ j, j < c * 3 → (W.cell? ⟨g, j, none⟩).isSome = true := fun W cs h hs j hj => by
    rw [h.cell, Array.getElem?_eq_getElem (by omega)]; rfl
  have hj1 : j ≤ n := by omega
  obtain ⟨AD, hA, hsrc⟩ : ∃ AD : Addr, (if c = j then some (⟨g, 0, none⟩ : Addr) else some ⟨g, j * 3, none⟩) = some AD ∧ Hid (∀ t u, news[t]? = some u → w.drew.cell? (AD.add t) = some u) := by
    by_cases h : c = j
    · refine ⟨⟨g, 0, none⟩, by simp [h], Lib.hid fun t u hu => ?_⟩
      have h0 : news.length = 0 := by rw [hlen]; omega
      rw [List.length_eq_zero_iff.1 h0] at hu
      simp at hu
    · refine ⟨⟨g, j * 3, none⟩, by simp [h], Lib.hid fun t u hu => ?_⟩
      rw [addr_add]
      refine hcell _ _ ?_
      rw [hnews, flatT_drop, List.getElem?_drop] at hu
      exact hu
  have s1 := Lib.hid hlen
  have s2 := Lib.hid (show ∀ u ∈ news, u.oneCell' = true from by rw [hnews]; exact flatT_each _)
  have s3 := Lib.hid (show ∀ t, t < news.length → (w.drew.cell? ⟨g, 0 + i * 3 + t, none⟩).isSome = true ∧ w.drew.frozen? ⟨g, 0 + i * 3 + t, none⟩ = false from fun t ht => by
    rw [hlen] at ht
    exact ⟨hs1 _ _ hw.drew h3 _ (by omega), hw.drew.free _⟩)
  obtain ⟨W1, hW1⟩ : ∃ W1, W1 = w.drew.setCells g (0 + i * 3) news := ⟨_, rfl⟩
  have hw1 : Whole W1 g 38 (putsA cur (0 + i * 3) news) := by rw [hW1]; exact whole_puts _ _ hw.drew
  have hcl : ∀ ty cc, (Builtin.clear_ #[45] ty #[.slice (some ⟨g, (n - 1) * 3, none⟩) (n - (n - 1)) cc]).run Try.prog W1 = .ok (.tuple #[]) (W1.setCells g ((n - 1) * 3) zeroT) := fun ty cc => by
    rw [show n - (n - 1) = 1 by omega]
    exact run_clear_one W1 _ _ ty (.agg zeroT.toArray) zeroT Try.underlying45 zeroVT (by kernel_rfl) (by simp [zeroT, Value.oneCell']) g _ cc
      (fun j hj => hs1 _ _ hw1 (by rw [putsA_size, h3]) _ (by have : zeroT.length = 3 := rfl; omega)) (fun j hj => hw1.free _)
  have hres := Lib.hid (show RowT (W1.setCells g ((n - 1) * 3) zeroT) B (some ⟨g, 0, none⟩) c (L.take i ++ L.drop j) ∧ w.grownBy (W1.setCells g ((n - 1) * 3) zeroT) (some g) from by
    have hll : (L.take i ++ L.drop j).length = n - 1 := by rw [List.length_append, List.length_take, List.length_drop, hn]; omega
    refine ⟨RowT.mk_ hB (whole_puts _ _ hw1) (by omega) h2 (by rw [putsA_size, putsA_size, h3]) ?_, ?_⟩
    · rw [hll, putsA_list _ _ _ (by rw [putsA_size, h3]; have : zeroT.length = 3 := rfl; omega), List.take_append_of_le_length (by rw [List.length_take, Array.length_toList, putsA_size, h3]; omega), List.take_take, Nat.min_self]
      rw [putsA_list _ _ _ (by rw [h3, hlen]; omega), Nat.zero_add, flatT_append, flatT_take, ← hnews, ← List.append_assoc]
      have e1 : cur.toList.take (i * 3) = (flatT L).take (i * 3) := by rw [← ht, List.take_take, hn, Nat.min_eq_left (by omega)]
      rw [e1]
      refine List.take_left' ?_
      rw [List.length_append, List.length_take, flatT_length, hlen, hn]
      omega
    · rw [hW1]
      exact (show w.grownBy w.drew (some g) from ⟨rfl, rfl, rfl, Nat.le_refl _, fun _ _ _ => rfl⟩).andThen (grown_puts g news w.drew (0 + i * 3)) (fun j hj => .inr (by rw [hj])) |>.andThen (grown_puts g _ _ _) (fun j hj => .inr (by rw [hj])))
  have hW := Lib.hid hW1
  have hic : i ≤ c := by omega
  have hic1 : j ≤ c := by omega
  have hnc : n ≤ c := by omega
  have hne : ¬ ((i : Int) = (j : Int)) := by omega
  have hnn : i + (n - j) = n - 1 := by omega
  have hij2 : i < j := by omega
  have mixed : Try.prog.follows Departure.mixedOrders = true := by kernel_rfl
  rw [hn] at hi hL ⊢
  clear hw1 hcell hs1 hW1 ht hw h1 h3 hB hnews hlen hn hij
  go_enter Try.func33, Try.ntmps33
  go_wp2_with fail
  go_region_law_o (refine step_append_room rfl (.tmp 22) (.tmp 25) 45 rfl 38 i0 3 Try.underlying45 hi0 hz1 g 0 i c (by simp [Act.eval, Act.put]) AD (n - j) (c - j) news (by simp [Act.eval, Act.put]) s1.out hsrc.out s2.out (by omega) s3.out ?_; rw [← hW.out])
  go_wp2
  go_ret
  exact ⟨rfl, hres.out⟩
end Wh
end Go.Proofs.Ytgbahkkccpcadaa
