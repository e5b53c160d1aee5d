/- The walk of the law TextJoins. -/
import Derived.Test.YtkigkoeanhepkaaTextWordsLaw
import Derived.Deep.Strs
namespace Go.Proofs.Ytkigkoeanhepkaa
namespace Text
open Go.RowKit Go.Shelf

theorem chr_cat (s t : ByteArray) (i : Nat) : Mem.chr (s ++ t) i = if i < s.size then Mem.chr s i else Mem.chr t (i - s.size) := by
  unfold Mem.chr
  rw [ByteArray.data_append]
  simp only [Array.toList_append, List.getD_eq_getElem?_getD]
  have hs : s.size = s.data.toList.length := by simp
  by_cases h : i < s.size
  · rw [if_pos h, List.getElem?_append_left (by omega)]
  · rw [if_neg h, List.getElem?_append_right (by omega), hs]
theorem size_cat (s t : ByteArray) : (s ++ t).size = s.size + t.size := ByteArray.size_append

theorem solid_cat (s t : ByteArray) (i : Nat) (h : i < s.size) : solid (s ++ t) i = solid s i := by
  unfold solid
  rw [chr_cat, if_pos h, size_cat]
  simp [h]
  omega
theorem extract_cat (s t : ByteArray) (a b : Nat) (h : b ≤ s.size) : (s ++ t).extract a b = s.extract a b := by
  apply ByteArray.ext
  simp only [ByteArray.data_extract, ByteArray.data_append]
  apply Array.ext'
  simp only [Array.toList_extract, Array.toList_append, List.extract]
  have hs : s.size = s.data.toList.length := by simp
  by_cases hab : a ≤ b
  · rw [List.drop_append_of_le_length (by omega), List.take_append_of_le_length (by simp; omega)]
  · rw [show b - a = 0 by omega]
    simp
theorem wst_cat (s t : ByteArray) (k : Nat) (h : k ≤ s.size) : wst (s ++ t) k = wst s k := by
  induction k with
  | zero => rfl
  | succ k ih =>
    have ih := ih (by omega)
    have hf := wst_from s k
    cases e : solid s k with
    | true => rw [wst_yes _ _ (by rw [solid_cat _ _ _ (by omega)]; exact e), wst_yes _ _ e, ih]
    | false => rw [wst_no _ _ (by rw [solid_cat _ _ _ (by omega)]; exact e), wst_no _ _ e, ih, extract_cat _ _ _ _ (by omega)]
theorem end_hollow (s : ByteArray) (i : Nat) (h : s.size ≤ i) : solid s i = false := by
  unfold solid
  simp
  omega
theorem wst_end (s : ByteArray) : wst s (s.size + 1) = (s.size + 1, wordsL s) := by
  unfold wordsL
  rw [wst_no _ _ (end_hollow s _ (Nat.le_refl _))]

def gapB : ByteArray := { data := #[32] }
theorem blank_size : gapB.size = 1 := rfl
/-- a text at the end of which a word may begin -/
def Opens (s : ByteArray) : Prop := wst s s.size = (s.size, wordsL s)
theorem blank_more (s : ByteArray) : wordsL (s ++ gapB) = wordsL s ∧ Opens (s ++ gapB) := by
  have hz : (s ++ gapB).size = s.size + 1 := by rw [size_cat, blank_size]
  have h1 : wst (s ++ gapB) (s.size + 1) = (s.size + 1, wordsL s) := by
    have hn : solid (s ++ gapB) s.size = false := by
      unfold solid
      rw [chr_cat, if_neg (by omega), Nat.sub_self]
      simp [show Mem.chr gapB 0 = 32 from rfl]
    rw [wst_no _ _ hn, wst_cat _ _ _ (Nat.le_refl _)]
    have := wst_end s
    rw [wst_no _ _ (end_hollow s _ (Nat.le_refl _))] at this
    have h2 := wst_from s s.size
    rw [extract_cat _ _ _ _ (Nat.le_refl _)]
    exact this
  have h2 : wordsL (s ++ gapB) = wordsL s := by
    unfold wordsL
    rw [hz, wst_no _ _ (end_hollow _ _ (by rw [hz]; exact Nat.le_refl _)), h1, if_neg (by simp)]
    rfl
  refine ⟨h2, ?_⟩
  unfold Opens
  rw [hz, h1, h2]
theorem word_more (s x : ByteArray) (h : Opens s) (hx : 0 < x.size) (hc : ∀ i, i < x.size → Mem.chr x i ≠ 32) : wordsL (s ++ x) = wordsL s ++ [x] := by
  have key : ∀ m, m ≤ x.size → wst (s ++ x) (s.size + m) = (s.size, wordsL s) := by
    intro m
    induction m with
    | zero =>
      intro _
      rw [Nat.add_zero, wst_cat _ _ _ (Nat.le_refl _)]
      exact h
    | succ m ih =>
      intro hm
      have hs : solid (s ++ x) (s.size + m) = true := by
        unfold solid
        rw [chr_cat, if_neg (by omega), Nat.add_sub_cancel_left, size_cat]
        have := hc m (by omega)
        simp [this]
        omega
      rw [show s.size + (m + 1) = s.size + m + 1 by omega, wst_yes _ _ hs]
      exact ih (by omega)
  have hk := key x.size (Nat.le_refl _)
  rw [← size_cat] at hk
  have := wst_end (s ++ x)
  rw [wst_no _ _ (end_hollow _ _ (Nat.le_refl _)), hk, if_pos (by rw [size_cat]; omega)] at this
  have h2 := congrArg Prod.snd this
  simp only at h2
  rw [← h2]
  congr 1
  congr 1
  apply ByteArray.ext
  simp only [ByteArray.data_extract, ByteArray.data_append]
  apply Array.ext'
  have hs : s.size = s.data.toList.length := by simp
  have hx2 : x.size = x.data.toList.length := by simp
  simp only [Array.toList_extract, Array.toList_append, List.extract, size_cat]
  rw [hs, List.drop_left, Nat.add_sub_cancel_left, hx2]
  exact List.take_length

theorem seen_cat (s t : ByteArray) (h : seenTo s s.size = true) (ht : ∀ i, i < t.size → 32 ≤ Mem.chr t i ∧ Mem.chr t i ≤ 126) : seenTo (s ++ t) (s ++ t).size = true := by
  unfold seenTo
  rw [List.all_eq_true]
  intro i hi
  have hi := List.mem_range.1 hi
  rw [size_cat] at hi
  rw [chr_cat]
  by_cases h1 : i < s.size
  · rw [if_pos h1]
    have := seen_at h h1
    simp [this.1, this.2]
  · rw [if_neg h1]
    have := ht (i - s.size) (by omega)
    simp [this.1, this.2]

end Text

namespace TextJoins
open Go.ChangeShapes Go.WideShapes Go.ChangeAt Go.RowKit
open Num Mem Chacha Go.Proofs.Ytkigkoeanhepkaa.Text Go.Proofs.Ytkigkoeanhepkaa.TextWords

/-- a slice of strings that came in -/
def Strs (w : World) (a : Option Addr) (n : Nat) (xs : List ByteArray) : Prop :=
  xs.length = n ∧ (xs = [] ∨ ∃ b off, a = some ⟨b, off, none⟩ ∧ b < w.heap.size ∧ ∀ i x, xs[i]? = some x → w.cell? ⟨b, off + i, none⟩ = some (.string x))

theorem open_strs' {H : Type} {enc : TypeId × Value → H} {P : Program} {w : World} {spare : Nat → Bool} {held : Bool} {base : Nat} {t e : TypeId} {a : Option Addr} {len cap : Nat} {d : DataW H} {p : List MemPlace} (ht : P.underlying t = some (.slice e)) (he : P.underlying e = some .string) (hc : P.cellsOf e = 1)
    (h : ∃ fuel, DataW.trod enc P w base spare held fuel t (Value.slice a len cap).cells.toList = some (d, p)) : ∃ xs, Strs w a len xs := by
  obtain ⟨fuel, h⟩ := h
  rcases Deep.open_strs ht he hc h with ⟨hcs, _⟩ | ⟨x, l, c, m, Sx, hcs, _, hl, _, hm, _, hcell⟩
  · simp [Value.cells] at hcs
    obtain ⟨rfl, rfl, rfl⟩ := hcs
    exact ⟨[], rfl, .inl rfl⟩
  · simp [Value.cells] at hcs
    obtain ⟨rfl, rfl, rfl⟩ := hcs
    have hlm : len ≤ m := by rw [hm]; split <;> omega
    refine ⟨(List.range len).map Sx, by simp, ?_⟩
    rcases Nat.eq_zero_or_pos len with h0 | h0
    · exact .inl (by rw [h0]; rfl)
    · right
      have hc := (hcell 0 (by omega)).1
      obtain ⟨b, off, spot⟩ := x
      have hspot : spot = none := by simpa [Addr.add] using World.cell?_spot hc
      subst hspot
      refine ⟨b, off, rfl, ?_, fun i x hx => ?_⟩
      · rcases Nat.lt_or_ge b w.heap.size with k | k
        · exact k
        · exfalso
          simp [Addr.add, World.cell?, Array.getElem?_eq_none k] at hc
      · have hi : i < len := by
          rcases Nat.lt_or_ge i len with k | k
          · exact k
          · rw [List.getElem?_eq_none (by simpa using k)] at hx; cases hx
        have hci := (hcell i (by omega)).1
        have hadd : (⟨b, off, none⟩ : Addr).add i = ⟨b, off + i, none⟩ := by unfold Addr.add; split <;> simp_all
        rw [hadd] at hci
        rw [hci]
        simp [hi] at hx
        rw [hx]

set_option maxRecDepth 100000 in
set_option maxHeartbeats 2000000 in
theorem same_off (g g' off c1 c2 : Nat) (xs : List ByteArray) (w : World) (hl : xs.length < 2 ^ 62) (h1 : ∀ i x, xs[i]? = some x → w.cell? ⟨g, i, none⟩ = some (.string x)) (h2 : ∀ i x, xs[i]? = some x → w.cell? ⟨g', off + i, none⟩ = some (.string x)) :
    Calls Try.prog 15 #[.slice (some ⟨g, 0, none⟩) xs.length c1, .slice (some ⟨g', off, none⟩) xs.length c2] w fun e w' => e = .returned (.bool true) ∧ Below w.heap.size w w' := by
  have H1 := Lib.hid h1
  have H2 := Lib.hid h2
  clear h1 h2
  obtain ⟨n, hn⟩ : ∃ n, xs.length = n := ⟨_, rfl⟩
  have HN := Lib.hid hn
  rw [hn] at hl ⊢
  clear hn
  go_enter Try.func15, Try.ntmps15
  go_wp2
  go_loopw [5] (fun i wr => ∃ k d : Nat, k ≤ n ∧ i = .int .i64 k ∧ wr = w.drewN d) (fun i _ => n - (intOf i).toNat)
  case atStart => exact ⟨0, 0, Nat.zero_le _, rfl, rfl⟩
  case round =>
    obtain ⟨k, d, hk, rfl, rfl⟩ := hrel
    by_cases hlt : k < n
    · have hT : (decide ((k : Int) < (n : Int))) = true := decide_eq_true (by omega)
      obtain ⟨x, hx⟩ : ∃ x, xs[k]? = some x := ⟨xs[k]'(by rw [HN.out]; exact hlt), List.getElem?_eq_getElem _⟩
      have hc1 : w.cell? ⟨g, k, none⟩ = some (.string x) := H1.out k x hx
      have hc2 : w.cell? ⟨g', off + k, none⟩ = some (.string x) := H2.out k x hx
      have hne := str_bne x
      clear hx
      go_wp2
      go_quiet (fail)
      go_wp2_with fail
      refine ⟨⟨k + 1, _, by omega, rfl, rfl⟩, ?_⟩
      show n - ((k : Int) + 1).toNat < n - (k : Int).toNat
      omega
    · obtain rfl : k = n := by omega
      go_wp2
      go_ret
      exact ⟨rfl, below_d d⟩

theorem same_strs {W : World} {b1 : Nat} {v1 : Value} {a : Option Addr} {n c : Nat} {xs : List ByteArray} (h1 : RowOf W b1 v1 xs) (h2 : Strs W a n xs) (hl : xs.length < 2 ^ 62) :
    Calls Try.prog 15 #[v1, .slice a n c] W fun e w' => e = .returned (.bool true) ∧ Below W.heap.size W w' := by
  obtain ⟨a1, c1, rfl, h1⟩ := h1
  obtain ⟨rfl, h2⟩ := h2
  rcases h1 with rfl | ⟨g, rfl, _, _, h1⟩
  · exact same_nil a1 a c1 c W
  · rcases h2 with rfl | ⟨b, off, rfl, _, h2⟩
    · exact same_nil _ a c1 c W
    · exact same_off g b off c1 c xs W hl h1 h2
theorem Strs.below {w w' : World} {a : Option Addr} {n B : Nat} {xs : List ByteArray} (h : Strs w a n xs) (hb : Below B w w') (hB : w.heap.size ≤ B) : Strs w' a n xs := by
  refine ⟨h.1, h.2.imp id fun ⟨b, off, e, hl, hc⟩ => ⟨b, off, e, Nat.lt_of_lt_of_le hl hb.size, fun i x hx => ?_⟩⟩
  rw [hb.cell (p := ⟨b, off + i, none⟩) (Nat.lt_of_lt_of_le hl hB)]
  exact hc i x hx

/-- what holds when the first words of a list stand in a text -/
structure Sofar (s : ByteArray) (ws : List ByteArray) (m : Nat) : Prop where
  words : wordsL s = ws
  seen : seenTo s s.size = true
  size : s.size ≤ m
theorem sofar_nil : Sofar { data := #[] } [] 0 := ⟨by decide +kernel, by decide +kernel, by decide⟩
theorem Sofar.blank {s : ByteArray} {ws : List ByteArray} {m : Nat} (h : Sofar s ws m) : Sofar (s ++ gapB) ws (m + 1) ∧ Opens (s ++ gapB) := by
  refine ⟨⟨(blank_more s).1.trans h.words, seen_cat s _ h.seen (fun i hi => ?_), by rw [size_cat, blank_size]; have := h.size; omega⟩, (blank_more s).2⟩
  rw [blank_size] at hi
  obtain rfl : i = 0 := by omega
  decide
theorem Sofar.word {s x : ByteArray} {ws : List ByteArray} {m : Nat} (h : Sofar s ws m) (ho : Opens s) (hx : 0 < x.size) (hl : x.size ≤ 60) (hc : ∀ i, i < x.size → 32 < chr x i ∧ chr x i ≤ 126) : Sofar (s ++ x) (ws ++ [x]) (m + 60) := by
  refine ⟨?_, seen_cat s _ h.seen (fun i hi => ⟨by have := hc i hi; omega, (hc i hi).2⟩), by rw [size_cat]; have := h.size; omega⟩
  rw [word_more s x ho hx (fun i hi => by have := hc i hi; omega), h.words]

theorem and_gap (v : Nat) (hv : v < 256) : bits .and .u8 (v : Int) 3 = ((v % 4 : Nat) : Int) := by
  have : ∀ x : Fin 256, bits .and .u8 ((x.val : Nat) : Int) 3 = ((x.val % 4 : Nat) : Int) := by decide +kernel
  exact this ⟨v, hv⟩

end TextJoins
end Go.Proofs.Ytkigkoeanhepkaa
