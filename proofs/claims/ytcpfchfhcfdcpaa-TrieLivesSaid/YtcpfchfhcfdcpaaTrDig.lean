/- Prefixes as digits. -/
import Derived.Test.YtcpfchfhcfdcpaaTrMath2
import Derived.Test.YtcpfchfhcfdcpaaCidrNest
namespace Go.Proofs.Ytcpfchfhcfdcpaa
namespace Tri
open Adr

/-- a digit of an address -/
def dig (f : Nat → Nat) (i : Nat) : Bool := f (i / 8) / 2 ^ (7 - i % 8) % 2 == 1
/-- the first n digits -/
def bs (f : Nat → Nat) (n : Nat) : Bs := (List.range n).map (dig f)
theorem bs_length (f : Nat → Nat) (n : Nat) : (bs f n).length = n := by simp [bs]
theorem bs_getE (f : Nat → Nat) {n i : Nat} (h : i < n) : (bs f n)[i]? = some (dig f i) := by simp [bs, h]
theorem bs_getD (f : Nat → Nat) {n i : Nat} (h : i < n) : (bs f n).getD i false = dig f i := by simp [List.getD, bs_getE f h]
theorem bs_take (f : Nat → Nat) {m n : Nat} (h : m ≤ n) : (bs f n).take m = bs f m := by
  apply List.ext_getElem?
  intro i
  rw [List.getElem?_take]
  by_cases hi : i < m
  · rw [if_pos hi, bs_getE f (Nat.lt_of_lt_of_le hi h), bs_getE f hi]
  · rw [if_neg hi, List.getElem?_eq_none (by rw [bs_length]; omega)]
theorem bs_eq {f g : Nat → Nat} {n : Nat} (h : ∀ i, i < n → dig f i = dig g i) : bs f n = bs g n := List.map_congr_left fun i hi => h i (List.mem_range.1 hi)
theorem bs_eq_iff {f g : Nat → Nat} {n : Nat} : bs f n = bs g n ↔ ∀ i, i < n → dig f i = dig g i := by
  refine ⟨fun h i hi => ?_, bs_eq⟩
  have := congrArg (·[i]?) h
  simp only [bs_getE f hi, bs_getE g hi] at this
  exact Option.some.inj this
theorem bs_pre {f g : Nat → Nat} {m n : Nat} : bs f m <+: bs g n ↔ m ≤ n ∧ ∀ i, i < m → dig f i = dig g i := by
  constructor
  · intro h
    have hl := h.length_le
    rw [bs_length, bs_length] at hl
    refine ⟨hl, bs_eq_iff.1 ?_⟩
    have := List.prefix_iff_eq_take.1 h
    rw [bs_length, bs_take g hl] at this
    exact this
  · rintro ⟨h1, h2⟩
    rw [bs_eq h2, ← bs_take g h1]
    exact List.take_prefix _ _
theorem bit_testBit (x k : Nat) : (x / 2 ^ k % 2 == 1) = x.testBit k := by
  rw [Nat.testBit_eq_decide_div_mod_eq]
  by_cases h : x / 2 ^ k % 2 = 1 <;> simp [h]
theorem byte_eq {x y : Nat} (hx : x < 256) (hy : y < 256) : x = y ↔ ∀ k, k < 8 → (x / 2 ^ (7 - k) % 2 == 1) = (y / 2 ^ (7 - k) % 2 == 1) := by
  constructor
  · rintro rfl k _; rfl
  · intro h
    refine Nat.eq_of_testBit_eq fun j => ?_
    by_cases hj : j < 8
    · have := h (7 - j) (by omega)
      rw [show 7 - (7 - j) = j by omega, bit_testBit, bit_testBit] at this
      exact this
    · have h1 : (256 : Nat) ≤ 2 ^ j := by
        have := Nat.pow_le_pow_right (n := 2) (by decide) (show 8 ≤ j by omega)
        exact this
      rw [Nat.testBit_lt_two_pow (Nat.lt_of_lt_of_le hx h1), Nat.testBit_lt_two_pow (Nat.lt_of_lt_of_le hy h1)]
theorem bytes_eq {f g : Nat → Nat} (hf : ∀ i, f i < 256) (hg : ∀ i, g i < 256) (m : Nat) : (∀ j, j < m → f j = g j) ↔ ∀ i, i < 8 * m → dig f i = dig g i := by
  constructor
  · intro h i hi
    unfold dig
    rw [h (i / 8) (by omega)]
  · intro h j hj
    refine (byte_eq (hf j) (hg j)).2 fun k hk => ?_
    have := h (8 * j + k) (by omega)
    unfold dig at this
    rw [show (8 * j + k) / 8 = j by omega, show (8 * j + k) % 8 = k by omega] at this
    exact this
theorem topB_digit : ∀ k, k < 9 → ∀ x, x < 256 → ∀ j, j < 8 → (topB k x / 2 ^ (7 - j) % 2 == 1) = (decide (j < k) && (x / 2 ^ (7 - j) % 2 == 1)) := by decide +kernel
theorem dig_mask {f : Nat → Nat} (hf : ∀ i, f i < 256) (z : Nat) (i : Nat) : dig (maskF (z : Int) f) i = (decide (i < z) && dig f i) := by
  unfold dig maskF
  rw [topB_digit (keptN z (i / 8)) (by have := keptN_le z (i / 8); omega) _ (hf _) (i % 8) (by omega), keptN_nat]
  congr 1
  by_cases h : i < z
  · rw [decide_eq_true h, decide_eq_true (by omega)]
  · rw [decide_eq_false h, decide_eq_false (by omega)]
/-- of a prefix that may be: how many digits, and none behind them -/
theorem right_parts {s : Bool} {f : Nat → Nat} {z : Int} (h : rightPB s f z = true) : rightB s f = true ∧ 0 ≤ z ∧ z ≤ digitsI s ∧ ∀ i, i < 16 → maskF z f i = f i := by
  obtain ⟨h1, h2⟩ := rightPB_iff.1 h
  unfold maskE at h1
  by_cases hr : rightB s f = false
  · rw [if_pos hr] at h1; cases h1
  · rw [if_neg hr] at h1
    by_cases hz : z < 0 ∨ digitsI s < z
    · rw [if_pos hz] at h1; cases h1
    · rw [Bool.not_eq_false] at hr
      exact ⟨hr, by omega, by omega, h2⟩
theorem digits_le (s : Bool) : digitsI s ≤ 128 := by unfold digitsI; split <;> decide
theorem right_digit {s : Bool} {f : Nat → Nat} (hf : ∀ i, f i < 256) {z : Nat} (h : rightPB s f (z : Int) = true) {i : Nat} (hi : z ≤ i) (hi2 : i < 128) : dig f i = false := by
  have h1 := dig_mask hf z i
  have h2 := (right_parts h).2.2.2 (i / 8) (by omega)
  unfold dig at h1 ⊢
  rw [h2] at h1
  rw [h1, decide_eq_false (by omega)]
  rfl
/-- equal prefixes -/
theorem right_eq {s t : Bool} {f g : Nat → Nat} (hf : ∀ i, f i < 256) (hg : ∀ i, g i < 256) {m n : Nat} (h : rightPB s f (m : Int) = true) (k : rightPB t g (n : Int) = true) : (∀ i, i < 16 → f i = g i) ∧ m = n ↔ bs f m = bs g n := by
  constructor
  · rintro ⟨h1, rfl⟩
    refine bs_eq fun i hi => ?_
    have h2 := (right_parts h).2.2.1
    have h3 := digits_le s
    unfold dig
    rw [h1 (i / 8) (by omega)]
  · intro e
    have hmn : m = n := by have := congrArg List.length e; rwa [bs_length, bs_length] at this
    subst hmn
    refine ⟨(bytes_eq hf hg 16).2 fun i hi => ?_, rfl⟩
    by_cases him : i < m
    · exact bs_eq_iff.1 e i him
    · rw [right_digit hf h (by omega) hi, right_digit hg k (by omega) hi]
/-- an address lies in a prefix -/
theorem holds_iff {s s' : Bool} {f f' : Nat → Nat} (hf : ∀ i, f i < 256) (hf' : ∀ i, f' i < 256) {z : Nat} (h : rightPB s f (z : Int) = true) : holdsPB s f (z : Int) s' f' = true ↔ rightB s' f' = true ∧ s' = s ∧ bs f z <+: bs f' (digitsI s).toNat := by
  obtain ⟨h1, h2, h3, h4⟩ := right_parts h
  have h5 := digits_le s
  rw [holdsPB_iff, bs_pre]
  have hb : (∀ i, i < 16 → maskF (z : Int) f' i = f i) ↔ ∀ i, i < z → dig f i = dig f' i := by
    rw [bytes_eq (maskF_lt hf' _) hf 16]
    constructor
    · intro k i hi
      have := k i (by omega)
      rw [dig_mask hf', decide_eq_true hi] at this
      exact this.symm
    · intro k i hi
      rw [dig_mask hf']
      by_cases hiz : i < z
      · rw [decide_eq_true hiz, k i hiz]; rfl
      · rw [decide_eq_false hiz, right_digit hf h (by omega) hi]; rfl
  constructor
  · rintro ⟨_, k2, k3, k4⟩
    refine ⟨?_, k3, by omega, hb.1 k4⟩
    unfold maskE at k2
    by_cases hr : rightB s' f' = false
    · rw [if_pos hr] at k2; cases k2
    · rwa [Bool.not_eq_false] at hr
  · rintro ⟨k1, k2, _, k4⟩
    exact ⟨h, by rw [maskE_ok k1 (by omega) (by rw [k2]; exact h3)], k2, hb.2 k4⟩
/-- the digit of an address that may be -/
theorem bit_dig {s : Bool} {f : Nat → Nat} (h : rightB s f = true) (n : Nat) (hn : (n : Int) < digitsI s) : bitI s f (n : Int) = if dig f n = true then 1 else 0 := by
  unfold bitI
  rw [if_neg (by rw [h]; simp; omega)]
  unfold dig
  rw [Int.toNat_natCast]
  have : f (n / 8) / 2 ^ (7 - n % 8) % 2 < 2 := Nat.mod_lt _ (by decide)
  by_cases c : f (n / 8) / 2 ^ (7 - n % 8) % 2 = 1
  · rw [c]; rfl
  · rw [show f (n / 8) / 2 ^ (7 - n % 8) % 2 = 0 by omega]; rfl
theorem bit_far {s : Bool} {f : Nat → Nat} (n : Nat) (hn : digitsI s ≤ (n : Int)) : bitI s f (n : Int) = -1 := by
  unfold bitI
  rw [if_pos (.inr (.inr hn))]
/-- a prefix of fewer digits -/
theorem mask_bs {f : Nat → Nat} (hf : ∀ i, f i < 256) {k n : Nat} (h : k ≤ n) : bs (maskF (k : Int) f) k = (bs f n).take k := by
  rw [bs_take f h]
  exact bs_eq fun i hi => by rw [dig_mask hf, decide_eq_true hi]; rfl
/-- how many digits are in common, once it is known where the first unlike one stands -/
theorem cpl_is : ∀ {u v : Bs} {k : Nat}, k ≤ u.length → k ≤ v.length → u.take k = v.take k → (k = u.length ∨ k = v.length ∨ u.getD k false ≠ v.getD k false) → cpl u v = k
  | u, v, 0, _, _, _, h => by
    rcases u with _ | ⟨a, u⟩
    · simp [cpl]
    · rcases v with _ | ⟨b, v⟩
      · simp [cpl]
      · rcases h with h | h | h
        · simp at h
        · simp at h
        · simp only [cpl]
          rw [if_neg (fun e => h (by simp [List.getD, e]))]
  | [], _, k + 1, h, _, _, _ => by simp at h
  | _ :: _, [], k + 1, _, h, _, _ => by simp at h
  | a :: u, b :: v, k + 1, h1, h2, h3, h4 => by
    rw [List.take_succ_cons, List.take_succ_cons] at h3
    injection h3 with e h3
    simp only [cpl]
    rw [if_pos e, cpl_is (u := u) (v := v) (k := k) (by simpa using h1) (by simpa using h2) h3 (by simpa [List.getD] using h4)]
theorem cpl_bs {f g : Nat → Nat} {m n k : Nat} (h1 : k ≤ m) (h2 : k ≤ n) (h3 : ∀ i, i < k → dig f i = dig g i) (h4 : k = m ∨ k = n ∨ dig f k ≠ dig g k) : cpl (bs f m) (bs g n) = k := by
  refine cpl_is (by rw [bs_length]; exact h1) (by rw [bs_length]; exact h2) (by rw [bs_take f h1, bs_take g h2]; exact bs_eq h3) ?_
  rw [bs_length, bs_length]
  by_cases hm : k = m
  · exact .inl hm
  · by_cases hn : k = n
    · exact .inr (.inl hn)
    · rw [bs_getD f (by omega), bs_getD g (by omega)]
      exact .inr (.inr (by simpa [hm, hn] using h4))
/-- the order of prefixes: the first digit that is unlike -/
theorem lt_at : ∀ {u v : Bs} {k : Nat}, u.take k = v.take k → k < u.length → k < v.length → u.getD k false ≠ v.getD k false → lt u v = v.getD k false
  | u, v, 0, _, hu, hv, hn => by
    rcases u with _ | ⟨a, u⟩
    · simp at hu
    · rcases v with _ | ⟨b, v⟩
      · simp at hv
      · have e : ¬ a = b := fun e => hn (by simp [List.getD, e])
        simp [lt, List.getD, e]
  | [], _, k + 1, _, hu, _, _ => by simp at hu
  | _ :: _, [], k + 1, _, _, hv, _ => by simp at hv
  | a :: u, b :: v, k + 1, h, hu, hv, hn => by
    rw [List.take_succ_cons, List.take_succ_cons] at h
    injection h with e h
    have ih := lt_at (u := u) (v := v) (k := k) h (by simpa using hu) (by simpa using hv) (by simpa [List.getD] using hn)
    simp only [lt, if_pos e]
    simpa [List.getD] using ih
theorem least {P : Nat → Prop} : ∀ (n : Nat), P n → ∃ k, k ≤ n ∧ P k ∧ ∀ i, i < k → ¬ P i
  | n, h => by
    by_cases c : ∃ i, i < n ∧ P i
    · obtain ⟨i, hi, hp⟩ := c
      obtain ⟨k, h1, h2, h3⟩ := least i hp
      exact ⟨k, by omega, h2, h3⟩
    · exact ⟨n, Nat.le_refl _, h, fun i hi hp => c ⟨i, hi, hp⟩⟩
termination_by n => n
theorem byte_lt {x y k : Nat} (hk : k < 8) (he : ∀ j, j < k → (x / 2 ^ (7 - j) % 2 == 1) = (y / 2 ^ (7 - j) % 2 == 1)) (hx : x < 256) (hy : y < 256) (h0 : (x / 2 ^ (7 - k) % 2 == 1) = false) (h1 : (y / 2 ^ (7 - k) % 2 == 1) = true) : x < y := by
  have e : x / 2 ^ (8 - k) = y / 2 ^ (8 - k) := by
    refine Nat.eq_of_testBit_eq fun j => ?_
    rw [Nat.testBit_div_two_pow, Nat.testBit_div_two_pow]
    by_cases hj : j + (8 - k) < 8
    · have := he (7 - (j + (8 - k))) (by omega)
      rw [show 7 - (7 - (j + (8 - k))) = j + (8 - k) by omega, bit_testBit, bit_testBit] at this
      exact this
    · have h1 : (256 : Nat) ≤ 2 ^ (j + (8 - k)) := Nat.pow_le_pow_right (n := 2) (by decide) (show 8 ≤ j + (8 - k) by omega)
      rw [Nat.testBit_lt_two_pow (Nat.lt_of_lt_of_le hx h1), Nat.testBit_lt_two_pow (Nat.lt_of_lt_of_le hy h1)]
  have hp : 2 ^ (8 - k) = 2 ^ (7 - k) * 2 := by rw [show 8 - k = (7 - k) + 1 by omega, Nat.pow_succ]
  rw [hp, ← Nat.div_div_eq_div_mul, ← Nat.div_div_eq_div_mul] at e
  have h0' : ¬ x / 2 ^ (7 - k) % 2 = 1 := by simpa using h0
  have h1' : y / 2 ^ (7 - k) % 2 = 1 := by simpa using h1
  have hlt : x / 2 ^ (7 - k) < y / 2 ^ (7 - k) := by omega
  rcases Nat.lt_or_ge x y with h | h
  · exact h
  · have := Nat.div_le_div_right (c := 2 ^ (7 - k)) h
    omega
/-- Before, where a byte is unlike -/
theorem before_byte {s t : Bool} {f g : Nat → Nat} (hf : ∀ i, f i < 256) (hg : ∀ i, g i < 256) {m n i : Nat} (h : rightPB s f (m : Int) = true) (k : rightPB t g (n : Int) = true) (hi : i < 16) (he : ∀ j, j < i → f j = g j) (hn : f i ≠ g i) :
    lt (bs f m) (bs g n) = decide (f i < g i) := by
  have hm := (right_parts h).2.2.1
  have hm2 := digits_le s
  have hnn := (right_parts k).2.2.1
  have hn2 := digits_le t
  obtain ⟨q, hq, hqn⟩ : ∃ q, q < 8 ∧ (f i / 2 ^ (7 - q) % 2 == 1) ≠ (g i / 2 ^ (7 - q) % 2 == 1) := by
    rcases Classical.em (∃ q, q < 8 ∧ (f i / 2 ^ (7 - q) % 2 == 1) ≠ (g i / 2 ^ (7 - q) % 2 == 1)) with c | c
    · exact c
    · exact absurd ((byte_eq (hf i) (hg i)).2 fun q hq => Classical.byContradiction fun d => c ⟨q, hq, d⟩) hn
  obtain ⟨r, hr, hrn, hrl⟩ := least (P := fun q => (f i / 2 ^ (7 - q) % 2 == 1) ≠ (g i / 2 ^ (7 - q) % 2 == 1)) q hqn
  have hr8 : r < 8 := by omega
  have heq : ∀ j, j < r → (f i / 2 ^ (7 - j) % 2 == 1) = (g i / 2 ^ (7 - j) % 2 == 1) := fun j hj => Classical.byContradiction fun d => hrl j hj d
  have hdf : dig f (8 * i + r) = (f i / 2 ^ (7 - r) % 2 == 1) := by unfold dig; rw [show (8 * i + r) / 8 = i by omega, show (8 * i + r) % 8 = r by omega]
  have hdg : dig g (8 * i + r) = (g i / 2 ^ (7 - r) % 2 == 1) := by unfold dig; rw [show (8 * i + r) / 8 = i by omega, show (8 * i + r) % 8 = r by omega]
  have hbefore : ∀ j, j < 8 * i + r → dig f j = dig g j := fun j hj => by
    unfold dig
    by_cases c : j / 8 = i
    · rw [c]
      exact heq (j % 8) (by omega)
    · rw [he (j / 8) (by omega)]
  have hK : 8 * i + r < 128 := by omega
  generalize 8 * i + r = K at hdf hdg hbefore hK
  rw [← hdf, ← hdg] at hrn
  have hcmp : decide (f i < g i) = dig g K := by
    cases hgk : dig g K with
    | true =>
      have hfk : dig f K = false := by rw [hgk] at hrn; simpa using hrn
      exact decide_eq_true (byte_lt hr8 heq (hf i) (hg i) (hdf ▸ hfk) (hdg ▸ hgk))
    | false =>
      have hfk : dig f K = true := by rw [hgk] at hrn; simpa using hrn
      have := byte_lt hr8 (fun j hj => (heq j hj).symm) (hg i) (hf i) (hdg ▸ hgk) (hdf ▸ hfk)
      exact decide_eq_false (by omega)
  rw [hcmp]
  by_cases h1 : K < m
  · by_cases h2 : K < n
    · have := lt_at (u := bs f m) (v := bs g n) (k := K) (by rw [bs_take f (Nat.le_of_lt h1), bs_take g (Nat.le_of_lt h2)]; exact bs_eq hbefore) (by rw [bs_length]; exact h1) (by rw [bs_length]; exact h2) (by rw [bs_getD f h1, bs_getD g h2]; exact hrn)
      rw [this, bs_getD g h2]
    · have hgk := right_digit hg k (Nat.le_of_not_lt h2) hK
      rw [hgk]
      have hpre : bs g n <+: bs f m := bs_pre.2 ⟨by omega, fun j hj => (hbefore j (by omega)).symm⟩
      have hlt := lt_pre hpre (fun e => by have := congrArg List.length e; rw [bs_length, bs_length] at this; omega)
      cases hc : lt (bs f m) (bs g n) with
      | false => rfl
      | true => have := lt_trans hlt hc; rw [lt_irrefl] at this; cases this
  · have hfk := right_digit hf h (Nat.le_of_not_lt h1) hK
    have hgk : dig g K = true := by rw [hfk] at hrn; cases hc : dig g K with | true => rfl | false => exact absurd hc.symm hrn
    have h2 : K < n := by
      rcases Nat.lt_or_ge K n with c | c
      · exact c
      · rw [right_digit hg k c hK] at hgk; cases hgk
    rw [hgk]
    exact lt_pre (bs_pre.2 ⟨by omega, fun j hj => hbefore j (by omega)⟩) (fun e => by have := congrArg List.length e; rw [bs_length, bs_length] at this; omega)
/-- Before, where all bytes are alike -/
theorem before_same {f g : Nat → Nat} {m n : Nat} (_hm : m ≤ 128) (hn : n ≤ 128) (he : ∀ j, j < 16 → f j = g j) : lt (bs f m) (bs g n) = decide (m < n) := by
  have hd : ∀ i, i < 128 → dig f i = dig g i := fun i hi => by unfold dig; rw [he (i / 8) (by omega)]
  by_cases h : m < n
  · rw [decide_eq_true h]
    exact lt_pre (bs_pre.2 ⟨by omega, fun j hj => hd j (by omega)⟩) (fun e => by have := congrArg List.length e; rw [bs_length, bs_length] at this; omega)
  · rw [decide_eq_false h]
    have hpre : bs g n <+: bs f m := bs_pre.2 ⟨by omega, fun j hj => (hd j (by omega)).symm⟩
    cases hc : lt (bs f m) (bs g n) with
    | false => rfl
    | true =>
      by_cases e : bs g n = bs f m
      · rw [e, lt_irrefl] at hc; cases hc
      · have := lt_trans (lt_pre hpre e) hc; rw [lt_irrefl] at this; cases this
/-- how many digits two prefixes have in common: the first unlike byte tells -/
theorem cpl_byte {f g : Nat → Nat} (_hf : ∀ i, f i < 256) (_hg : ∀ i, g i < 256) {m n i r : Nat} (he : ∀ j, j < i → f j = g j) (hr8 : r < 8) (heq : ∀ j, j < r → (f i / 2 ^ (7 - j) % 2 == 1) = (g i / 2 ^ (7 - j) % 2 == 1)) (hrn : (f i / 2 ^ (7 - r) % 2 == 1) ≠ (g i / 2 ^ (7 - r) % 2 == 1)) : cpl (bs f m) (bs g n) = min (min m n) (8 * i + r) := by
  have hbefore : ∀ j, j < 8 * i + r → dig f j = dig g j := fun j hj => by
    unfold dig
    by_cases c : j / 8 = i
    · rw [c]
      exact heq (j % 8) (by omega)
    · rw [he (j / 8) (by omega)]
  have hat : dig f (8 * i + r) ≠ dig g (8 * i + r) := by
    unfold dig
    rw [show (8 * i + r) / 8 = i by omega, show (8 * i + r) % 8 = r by omega]
    exact hrn
  refine cpl_bs (by omega) (by omega) (fun j hj => hbefore j (by omega)) ?_
  by_cases h1 : 8 * i + r < m
  · by_cases h2 : 8 * i + r < n
    · rw [show min (min m n) (8 * i + r) = 8 * i + r by omega]
      exact .inr (.inr hat)
    · exact (Nat.le_total m n).elim (fun _ => .inr (.inl (by omega))) (fun _ => .inr (.inl (by omega)))
  · by_cases h2 : m ≤ n
    · exact .inl (by omega)
    · by_cases h3 : 8 * i + r < n
      · exact absurd h3 (by omega)
      · exact .inr (.inl (by omega))
theorem cpl_same {f g : Nat → Nat} {m n : Nat} (hm : m ≤ 128) (hn : n ≤ 128) (he : ∀ j, j < 16 → f j = g j) : cpl (bs f m) (bs g n) = min m n := by
  have hd : ∀ i, i < 128 → dig f i = dig g i := fun i hi => by unfold dig; rw [he (i / 8) (by omega)]
  refine cpl_bs (by omega) (by omega) (fun j hj => hd j (by omega)) ?_
  rcases Nat.le_total m n with h | h
  · exact .inl (by omega)
  · exact .inr (.inl (by omega))
end Tri
end Go.Proofs.Ytcpfchfhcfdcpaa
