/- Keys and words go there and back. -/
import Derived.Test.YtdcpbojknondcaaDoorTextReadKey
namespace Go.Proofs.YtdcpbojknondcaaDoor
namespace Text
open Num Mem Words

theorem chr_strOf (f : Nat → Nat) (n i : Nat) (h : i < n) (hf : f i < 256) : chr (strOf f n) i = f i := by
  unfold chr strOf
  rw [List.getD_eq_getElem?_getD]
  simp only [List.getElem?_map, List.getElem?_range h, Option.map_some, Option.getD_some]
  rw [UInt8.toNat_ofNat']
  omega

theorem be3 (f : Nat → Nat) (p : Nat) : be f p 3 = f p * 65536 + f (p + 1) * 256 + f (p + 2) := by
  simp only [be]
  simp
  omega
theorem g4 (N : Nat → Nat) (k : Nat) : gTo N k 4 = N (4 * k) * 262144 + N (4 * k + 1) * 4096 + N (4 * k + 2) * 64 + N (4 * k + 3) := by
  simp only [gTo]
  simp
  omega
/-- digit j of four -/
theorem dig6 (V j : Nat) (hV : V < 16777216) (hj : j < 4) : ∃ a b c d, V = a * 262144 + b * 4096 + c * 64 + d ∧ a < 64 ∧ b < 64 ∧ c < 64 ∧ d < 64 ∧ V / 2 ^ (18 - 6 * j) % 64 = (if j = 0 then a else if j = 1 then b else if j = 2 then c else d) := by
  refine ⟨V / 262144, V / 4096 % 64, V / 64 % 64, V % 64, by omega, by omega, by omega, by omega, by omega, ?_⟩
  rcases (show j = 0 ∨ j = 1 ∨ j = 2 ∨ j = 3 by omega) with rfl | rfl | rfl | rfl
  · simp
    omega
  · simp
  · simp
  · simp
theorem pick6 (N : Nat → Nat) (hN : ∀ i, N i < 64) (k j : Nat) (hj : j < 4) : gTo N k 4 / 2 ^ (18 - 6 * j) % 64 = N (4 * k + j) := by
  rw [g4]
  have h0 := hN (4 * k)
  have h1 := hN (4 * k + 1)
  have h2 := hN (4 * k + 2)
  have h3 := hN (4 * k + 3)
  rcases (show j = 0 ∨ j = 1 ∨ j = 2 ∨ j = 3 by omega) with rfl | rfl | rfl | rfl <;> simp <;> omega
/-- four digits of 64 make the number again -/
theorem back6 (V : Nat) (hV : V < 16777216) (N : Nat → Nat) (k : Nat) (h : ∀ j, j < 4 → N (4 * k + j) = V / 2 ^ (18 - 6 * j) % 64) : gTo N k 4 = V := by
  rw [g4]
  have h0 := h 0 (by omega)
  have h1 := h 1 (by omega)
  have h2 := h 2 (by omega)
  have h3 := h 3 (by omega)
  simp at h0 h1 h2 h3
  rw [h0, h1, h2, h3]
  omega
theorem bytes3 (V : Nat) (hV : V < 16777216) (f : Nat → Nat) (p : Nat) (h : ∀ r, r < 3 → f (p + r) = byteAt V (2 - r)) : be f p 3 = V := by
  rw [be3]
  have h0 := h 0 (by omega)
  have h1 := h 1 (by omega)
  have h2 := h 2 (by omega)
  simp [byteAt] at h0 h1 h2
  rw [h0, h1, h2]
  omega
theorem byte3 (f : Nat → Nat) (hf : ∀ i, f i < 256) (p r : Nat) (hr : r < 3) : byteAt (be f p 3) (2 - r) = f (p + r) := by
  rw [be3]
  have h0 := hf p
  have h1 := hf (p + 1)
  have h2 := hf (p + 2)
  rcases (show r = 0 ∨ r = 1 ∨ r = 2 by omega) with rfl | rfl | rfl <;> simp [byteAt] <;> omega

theorem kw_lt (f : Nat → Nat) (i : Nat) : kwB f i < 256 := by
  unfold kwB
  split
  · omega
  · exact sgn_lt _ (Nat.mod_lt _ (by omega))
theorem key_chr (f : Nat → Nat) (i : Nat) (h : i < 44) : chr (strOf (kwB f) 44) i = kwB f i := chr_strOf _ _ _ h (kw_lt f i)
theorem wide_be_lt (f : Nat → Nat) (hf : ∀ i, f i < 256) (p : Nat) : be (wide f) p 3 < 16777216 := by
  have := be_lt (wide_lt hf) p 3
  simpa using this
theorem key_num (f : Nat → Nat) (i : Nat) (h : i < 44) : numsTo (strOf (kwB f) 44) 43 i = be (wide f) (3 * (i / 4)) 3 / 2 ^ (18 - 6 * (i % 4)) % 64 := by
  have hl : be (wide f) (3 * (i / 4)) 3 / 2 ^ (18 - 6 * (i % 4)) % 64 < 64 := Nat.mod_lt _ (by omega)
  unfold numsTo
  by_cases h43 : i < 43
  · rw [if_pos h43, key_chr f i h]
    have e : kwB f i = sgn (be (wide f) (3 * (i / 4)) 3 / 2 ^ (18 - 6 * (i % 4)) % 64) := by
      unfold kwB
      rw [if_neg (by omega)]
    rw [e, sv_sgn _ hl, if_pos hl]
  · rw [if_neg h43]
    obtain rfl : i = 43 := by omega
    rw [be3]
    simp [wide]
    omega
theorem key_good (f : Nat → Nat) (hf : ∀ i, f i < 256) : rkE (strOf (kwB f) 44) = 0 := by
  have hsv : ∀ i, i < 43 → sv (chr (strOf (kwB f) 44) i) = be (wide f) (3 * (i / 4)) 3 / 2 ^ (18 - 6 * (i % 4)) % 64 := by
    intro i h
    have hl : be (wide f) (3 * (i / 4)) 3 / 2 ^ (18 - 6 * (i % 4)) % 64 < 64 := Nat.mod_lt _ (by omega)
    rw [key_chr f i (by omega)]
    unfold kwB
    rw [if_neg (by omega), sv_sgn _ hl]
  unfold rkE
  rw [if_neg (by rw [strOf_size]; simp), if_neg (by rw [key_chr f 43 (by omega)]; simp [kwB]), if_neg, if_neg]
  · rw [hsv 42 (by omega), be3]
    have h0 := wide_lt hf 30
    have h1 := wide_lt hf 31
    have h2 : wide f 32 = 0 := by simp [wide]
    simp [h2]
    omega
  · have : sgTo (strOf (kwB f) 44) 43 = true := by
      unfold sgTo
      rw [List.all_eq_true]
      intro i hi
      rw [decide_eq_true_eq, hsv i (List.mem_range.1 hi)]
      exact Nat.mod_lt _ (by omega)
    rw [this]
    simp
theorem key_back (f : Nat → Nat) (hf : ∀ i, f i < 256) (i : Nat) (h : i < 32) : rkB (strOf (kwB f) 44) i = f i := by
  unfold rkB
  rw [if_pos (key_good f hf)]
  unfold jB
  have hg : gTo (numsTo (strOf (kwB f) 44) 43) (i / 3) 4 = be (wide f) (3 * (i / 3)) 3 := by
    refine back6 _ (wide_be_lt f hf _) _ _ fun j hj => ?_
    rw [key_num f _ (by omega), show (4 * (i / 3) + j) / 4 = i / 3 by omega, show (4 * (i / 3) + j) % 4 = j by omega]
  rw [hg, byte3 (wide f) (wide_lt hf) _ _ (Nat.mod_lt _ (by omega)), show 3 * (i / 3) + i % 3 = i by omega]
  unfold wide
  rw [if_pos h]

/-- what is read as a key is the key's word -/
theorem word_back (s : ByteArray) (h : rkE s = 0) : strOf (kwB (rkB s)) 44 = s := by
  have hz : s.size = 44 ∧ chr s 43 = 61 ∧ sgTo s 43 = true ∧ sv (chr s 42) % 4 = 0 := by
    unfold rkE at h
    by_cases h1 : s.size ≠ 44
    · rw [if_pos h1] at h; cases h
    rw [if_neg h1] at h
    by_cases h2 : chr s 43 ≠ 61
    · rw [if_pos h2] at h; cases h
    rw [if_neg h2] at h
    by_cases h3 : sgTo s 43 = false
    · rw [if_pos h3] at h; cases h
    rw [if_neg h3] at h
    by_cases h4 : sv (chr s 42) % 4 ≠ 0
    · rw [if_pos h4] at h; cases h
    exact ⟨by omega, by omega, by simpa using h3, by omega⟩
  obtain ⟨h1, h2, h3, h4⟩ := hz
  have hN := nums_lt s 43
  have hlt := gTo_lt hN
  have hnum : ∀ i, i < 43 → numsTo s 43 i = sv (chr s i) := fun i hi => by
    unfold numsTo
    rw [if_pos hi, if_pos (sg_at h3 hi)]
  have hbe : ∀ k, k < 11 → be (wide (rkB s)) (3 * k) 3 = gTo (numsTo s 43) k 4 := by
    intro k hk
    refine bytes3 _ (hlt k 4 (by omega)) _ _ fun r hr => ?_
    unfold wide
    by_cases hi : 3 * k + r < 32
    · rw [if_pos hi]
      unfold rkB
      rw [if_pos h]
      unfold jB
      rw [show (3 * k + r) / 3 = k by omega, show (3 * k + r) % 3 = r by omega]
    · rw [if_neg hi]
      obtain rfl : k = 10 := by omega
      obtain rfl : r = 2 := by omega
      have e43 : numsTo s 43 43 = 0 := by simp [numsTo]
      have e42 := hnum 42 (by omega)
      rw [g4]
      simp only [Nat.reduceMul, Nat.reduceAdd, e43, byteAt, Nat.sub_self, Nat.mul_zero, Nat.pow_zero, Nat.div_one]
      omega
  have hb : ∀ i, i < 44 → kwB (rkB s) i = chr s i := by
    intro i hi
    unfold kwB
    by_cases h43 : i = 43
    · rw [if_pos h43, h43, h2]
    · rw [if_neg h43, hbe (i / 4) (by omega), pick6 _ hN _ _ (Nat.mod_lt _ (by omega)), show 4 * (i / 4) + i % 4 = i by omega, hnum i (by omega)]
      exact sgn_sv _ (chr_lt s i) (sg_at h3 (by omega))
  rw [strOf_congr hb]
  have := strOf_chr s
  rwa [h1] at this

end Text
end Go.Proofs.YtdcpbojknondcaaDoor
