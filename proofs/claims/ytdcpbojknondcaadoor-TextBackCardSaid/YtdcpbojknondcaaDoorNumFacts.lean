/- Numerals: a number's word is a number's, in one way alone, and stands as its number does. -/
import Derived.Test.YtdcpbojknondcaaDoorTextNum
import Derived.Test.YtdcpbojknondcaaDoorNumber
import Derived.Test.YtdcpbojknondcaaDoorNumMath
namespace Go.Proofs.YtdcpbojknondcaaDoor
namespace Text
open Num Mem

theorem chr_at (s : ByteArray) (k : Nat) (h : k < s.data.toList.length) : chr s k = (s.data.toList[k]).toNat := by
  unfold chr
  rw [List.getD_eq_getElem?_getD, List.getElem?_eq_getElem h]
  rfl
theorem nAt_take (s : ByteArray) (k : Nat) (h : k ≤ s.data.toList.length) : nAt s k = Dec.nL (s.data.toList.take k) := by
  induction k with
  | zero => rfl
  | succ k ih =>
    show nAt s k * 10 + (chr s k - 48) = _
    rw [ih (by omega), chr_at s k (by omega), List.take_add_one, List.getElem?_eq_getElem (by omega), Option.toList_some, Dec.nL_snoc]
theorem nAt_all (s : ByteArray) : nAt s s.size = Dec.nL s.data.toList := by
  have e : s.size = s.data.toList.length := by simp
  rw [nAt_take s s.size (by omega), e, List.take_length]

theorem isNum_iff (s : ByteArray) : isNum s = true ↔ s.data.toList ≠ [] ∧ (∀ c ∈ s.data.toList, Dec.isDig c) ∧ (s.data.toList.length ≤ 1 ∨ ∃ c r, s.data.toList = c :: r ∧ c.toNat ≠ 48) := by
  have e : s.size = s.data.toList.length := by simp
  have hd : digsTo s s.size = true ↔ ∀ c ∈ s.data.toList, Dec.isDig c := by
    unfold digsTo
    rw [List.all_eq_true]
    constructor
    · intro h c hc
      obtain ⟨i, hi, rfl⟩ := List.mem_iff_getElem.1 hc
      have := h i (List.mem_range.2 (by omega))
      rw [chr_at s i hi] at this
      unfold digB at this
      unfold Dec.isDig
      simpa using this
    · intro h i hi
      have hi' : i < s.data.toList.length := by rw [List.mem_range] at hi; omega
      have := h _ (List.getElem_mem hi')
      rw [chr_at s i hi']
      unfold digB
      unfold Dec.isDig at this
      simpa using this
  have hf : (decide (s.size ≤ 1) || chr s 0 != 48) = true ↔ (s.data.toList.length ≤ 1 ∨ ∃ c r, s.data.toList = c :: r ∧ c.toNat ≠ 48) := by
    rw [Bool.or_eq_true, decide_eq_true_eq, bne_iff_ne, e]
    by_cases h1 : s.data.toList.length ≤ 1
    · simp only [h1, true_or]
    · simp only [h1, false_or]
      have h2 : 0 < s.data.toList.length := by omega
      rw [chr_at s 0 h2]
      generalize s.data.toList = l at h2 ⊢
      cases l with
      | nil => simp at h2
      | cons c r =>
        simp only [List.getElem_cons_zero]
        constructor
        · intro h
          exact ⟨c, r, rfl, h⟩
        · rintro ⟨c', r', e', h⟩
          rw [List.cons.injEq] at e'
          rw [e'.1]
          exact h
  unfold isNum
  rw [Bool.and_eq_true, Bool.and_eq_true, hd, hf, decide_eq_true_eq, e, List.length_pos_iff]
  exact and_assoc.trans (and_congr_right fun _ => and_comm)

theorem numB_list (u : Nat) : (numB u).data.toList = Lib.decDigits u := by simp [numB]
theorem numB_num (u : Nat) : isNum (numB u) = true := by
  rw [isNum_iff, numB_list]
  exact ⟨Dec.dec_ne u, Dec.dec_digs u, Dec.dec_first u⟩
theorem numB_at (u : Nat) : nAt (numB u) (numB u).size = u := by
  rw [nAt_all, numB_list, Dec.nL_dec]
theorem num_back (s : ByteArray) (h : isNum s = true) : numB (nAt s s.size) = s := by
  obtain ⟨h1, h2, h3⟩ := (isNum_iff s).1 h
  rw [nAt_all]
  unfold numB
  rw [Dec.dec_nL _ h1 h2 h3]
theorem numB_size (u : Nat) : (numB u).size = Lib.nDigits u := by
  rw [← Lib.decDigits_length, ← numB_list]
  simp
theorem numB_inj {u v : Nat} (h : numB u = numB v) : u = v := by rw [← numB_at u, ← numB_at v, h]
theorem digits_mono (u v : Nat) (h : u ≤ v) : Lib.nDigits u ≤ Lib.nDigits v := by
  have h1 := Dec.nL_lt _ (Dec.dec_digs v)
  rw [Dec.nL_dec, Lib.decDigits_length] at h1
  by_cases h0 : u < 10
  · rw [Lib.nDigits_small h0]
    exact Lib.nDigits_pos v
  · rcases Nat.lt_or_ge (Lib.nDigits v) (Lib.nDigits u) with k | k
    · have hlow : ∀ n, ¬ n < 10 → 10 ^ (Lib.nDigits n - 1) ≤ n := by
        intro n
        induction n using Nat.strongRecOn with
        | _ n ih =>
          intro hn
          rw [Lib.nDigits_big hn, Nat.add_sub_cancel]
          by_cases h5 : n / 10 < 10
          · rw [Lib.nDigits_small h5]
            omega
          · have := ih (n / 10) (by omega) h5
            have hp := Lib.nDigits_pos (n / 10)
            rw [show Lib.nDigits (n / 10) = (Lib.nDigits (n / 10) - 1) + 1 by omega, Nat.pow_succ]
            omega
      have h2 := hlow u h0
      have h3 : 10 ^ Lib.nDigits v ≤ 10 ^ (Lib.nDigits u - 1) := Nat.pow_le_pow_right (by omega) (by omega)
      omega
    · exact k
theorem numB_less (u v : Nat) (h : Lib.nDigits u = Lib.nDigits v) : Op.bytesLess (numB u).toList (numB v).toList = decide (u < v) := by
  rw [ByteArray.toList_eq, ByteArray.toList_eq, numB_list, numB_list, Dec.less_iff _ _ (by rw [Lib.decDigits_length, Lib.decDigits_length, h]) (Dec.dec_digs u) (Dec.dec_digs v), Dec.nL_dec, Dec.nL_dec]

end Text
end Go.Proofs.YtdcpbojknondcaaDoor
