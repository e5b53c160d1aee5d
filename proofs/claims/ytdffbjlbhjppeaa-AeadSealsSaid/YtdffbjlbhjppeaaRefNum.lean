/- The document's own answers of layer 3 (package aditref03): numbers that are rows of bytes: trim, add, times. -/
import Derived.Test.YtdffbjlbhjppeaaCarry
import Derived.Test.YtdffbjlbhjppeaaApart
import Derived.Test.YtdffbjlbhjppeaaRefOne
import Derived.Test.YtdffbjlbhjppeaaEarly
import Derived.Deep.LoopGhost
import Derived.Deep.Cut
namespace Go.Proofs.Ytdffbjlbhjppeaa
namespace Ref
open Go.ChangeShapes Go.WideShapes Go.ChangeAt Go.RowKit
open Num Mem Words

theorem own_cap {w : World} {B t k c : Nat} {A : Option Addr} {f : Nat → Nat} (h : Own w B t A k c f) : k ≤ c := by
  rcases h.2 with ⟨e, h0⟩ | ⟨g, cap, cur, e, _, _, h1, _⟩
  · omega
  · injection e with _ _ e3
    subst e3
    exact h1

/-- what a trimmed row is -/
def TrimPost (w : World) (A : Option Addr) (n c : Nat) (f : Nat → Nat) (e : Ending) (w' : World) : Prop :=
  ∃ m, m ≤ n ∧ e = .returned (.slice A m c) ∧ le f 0 m = le f 0 n ∧ (m = 0 ∨ f (m - 1) ≠ 0) ∧ w = w'

def lenAt : Value → Nat
  | .slice _ n _ => n
  | _ => 0

set_option maxRecDepth 100000 in
theorem trim_any (A : Option Addr) (n c : Nat) (f : Nat → Nat) (hc : n ≤ c) (hn : n ≤ 1000000) (w : World) (hr : Rd w A n f) :
    Calls Try.prog 58 #[.slice A n c] w (TrimPost w A n c f) := by
  have HR := Lib.hid hr
  clear hr
  go_enter Try.func58, Try.ntmps58
  go_wp2_with fail
  go_loopw [0] (fun s wr => ∃ m, m ≤ n ∧ s = .slice A m c ∧ le f 0 m = le f 0 n ∧ w = wr) (fun s _ => lenAt s)
  case atStart => exact ⟨n, Nat.le_refl _, rfl, rfl, rfl⟩
  case round =>
    obtain ⟨m, hm, rfl, hle, rfl⟩ := hrel
    have HLE := Lib.hid hle
    clear hle
    by_cases h0 : 0 < m
    · obtain ⟨j, rfl⟩ : ∃ j, m = j + 1 := ⟨m - 1, by omega⟩
      obtain ⟨b, off, rfl, _, hcc⟩ : ∃ b off, A = some ⟨b, off, none⟩ ∧ b < w.heap.size ∧ ∀ i, i < n → w.cell? ⟨b, off + i, none⟩ = some (.int .u8 (f i : Nat)) := by
        rcases HR.out with h | ⟨b, off, h1, h2, h3⟩
        · omega
        · exact ⟨b, off, h1, h2, h3⟩
      have hcell := hcc j (by omega)
      have hj : (((j + 1 : Nat) : Int) - 1) = (j : Int) := by omega
      by_cases hz : f j = 0
      · have HZ := Lib.hid (show le f 0 j = le f 0 n by rw [← HLE.out, le, Nat.zero_add, hz, Nat.zero_mul, Nat.add_zero])
        rw [hz] at hcell
        clear hcc hz
        go_wp2_with fail
        go_roundw
        case rel => exact ⟨j, by omega, rfl, HZ.out, by first | trivial | rfl⟩
        case measure => simp [lenAt]
      · have hb : (((f j : Nat) : Int) == 0) = false := beq_eq_false_iff_ne.2 (by omega)
        have HZ := Lib.hid hz
        clear hcc hz
        go_wp2_with fail
        go_ret
        exact ⟨j + 1, hm, rfl, HLE.out, .inr (by rw [Nat.add_sub_cancel]; exact HZ.out), rfl⟩
    · obtain rfl : m = 0 := by omega
      go_wp2_with fail
      go_ret
      exact ⟨0, Nat.zero_le _, rfl, HLE.out, .inl rfl, rfl⟩

/-- the sum of two rows: as many bytes as it takes, of a number -/
def SumPost (w : World) (S K : Nat) (e : Ending) (w' : World) : Prop :=
  ∃ A k c, e = .returned (.slice A k c) ∧ Own w' w.heap.size 5 A k c (byt S) ∧ S < 2 ^ (8 * k) ∧ k ≤ K ∧ Below w.heap.size w w'

set_option maxRecDepth 100000 in
theorem add_any (A : Option Addr) (n c : Nat) (f : Nat → Nat) (A' : Option Addr) (m c' : Nat) (g : Nat → Nat) (hf : ∀ i, f i < 256) (hg : ∀ i, g i < 256) (hn : n ≤ 100000) (hm : m ≤ 100000) (w : World) (hr : Rd w A n f) (hr' : Rd w A' m g) :
    Calls Try.prog 38 #[.slice A n c, .slice A' m c'] w (SumPost w (le f 0 n + le g 0 m) (max n m + 1)) := by
  have HR := Lib.hid hr
  have HR' := Lib.hid hr'
  obtain ⟨F, hF⟩ : ∃ F, zx f n = F := ⟨_, rfl⟩
  obtain ⟨G, hG⟩ : ∃ G, zx g m = G := ⟨_, rfl⟩
  obtain ⟨S, hS⟩ : ∃ S, le f 0 n + le g 0 m = S := ⟨_, rfl⟩
  have HFL := Lib.hid (show ∀ i, F i < 256 from fun i => by rw [← hF]; exact zx_lt hf n i)
  have HGL := Lib.hid (show ∀ i, G i < 256 from fun i => by rw [← hG]; exact zx_lt hg m i)
  have HFI := Lib.hid (show ∀ i, i < n → f i = F i from fun i hi => by rw [← hF, zx_in hi])
  have HGI := Lib.hid (show ∀ i, i < m → g i = G i from fun i hi => by rw [← hG, zx_in hi])
  have HFO := Lib.hid (show ∀ i, n ≤ i → F i = 0 from fun i hi => by rw [← hF, zx_out hi])
  have HGO := Lib.hid (show ∀ i, m ≤ i → G i = 0 from fun i hi => by rw [← hG, zx_out hi])
  have HSB := Lib.hid (show ∀ k, byt S k = (cry F G k + F k + G k) % 256 from fun k => by
    rw [← hS, ← hF, ← hG, ← le_zx f n (max (k + 1) (max n m)) (by omega), ← le_zx g m (max (k + 1) (max n m)) (by omega)]
    exact cry_byte _ _ k _ (by omega))
  have HSU := Lib.hid (show ∀ k, n ≤ k → m ≤ k → cry F G k = 0 → S < 2 ^ (8 * k) from fun k h1 h2 h3 => by
    unfold cry at h3
    rw [← hF, ← hG, le_zx f n k h1, le_zx g m k h2, hS] at h3
    rcases Nat.lt_or_ge S (2 ^ (8 * k)) with h | h
    · exact h
    · have := Nat.div_pos h (Nat.two_pow_pos (8 * k))
      omega)
  rw [hS]
  clear hr hr' hF hG hS hf hg
  go_enter Try.func38, Try.ntmps38
  go_wp2_with fail
  go_loopw [5, 6, 7] (fun o cc i wr => ∃ (k : Nat) (A1 : Option Addr) (c1 : Nat), k ≤ max n m + 1 ∧ (k = max n m + 1 → cry F G k = 0) ∧ i = .int .i64 k ∧ cc = .int .i64 (cry F G k : Nat) ∧ o = .slice A1 k c1 ∧ Own wr w.heap.size 5 A1 k c1 (byt S) ∧ Below w.heap.size w wr) (fun _ _ i _ => max n m + 2 - (intOf i).toNat)
  case atStart => exact ⟨0, none, 0, Nat.zero_le _, fun _ => cry_zero _ _, rfl, by rw [cry_zero]; rfl, rfl, Own.nil _ _ _ _, Below.refl _ _⟩
  case round =>
    obtain ⟨k, A1, c1, hk, hkz, rfl, rfl, rfl, hown, hbel⟩ := hrel
    have HO := Lib.hid hown
    have HL := Lib.hid hbel
    have HKZ := Lib.hid hkz
    have hsz := hbel.size
    have b3 := cry_le HFL.out HGL.out k
    have b1 := HFL.out k
    have b2 := HGL.out k
    have HST := Lib.hid (cry_step F G k)
    have HBY := Lib.hid (HSB.out k)
    have HUP := Lib.hid (HSU.out k)
    have HF0 := Lib.hid (HFO.out k)
    have HG0 := Lib.hid (HGO.out k)
    have HFK := Lib.hid (HFI.out k)
    have HGK := Lib.hid (HGI.out k)
    clear hown hbel hkz
    generalize hcr : cry F G k = u at b3 HST HBY HUP HKZ ⊢
    generalize hFx : F k = x at b1 HST HBY HF0 HFK
    generalize hGy : G k = y at b2 HST HBY HG0 HGK
    have HCR := Lib.hid hcr
    clear hcr hFx hGy
    have cF : k < n → ∃ b off, A = some ⟨b, off, none⟩ ∧ wr.cell? ⟨b, off + k, none⟩ = some (.int .u8 (x : Nat)) := fun h => by
      rcases HR.out with h0 | ⟨b, off, h1, h2, h3⟩
      · omega
      · exact ⟨b, off, h1, (HL.out.cell (p := ⟨b, off + k, none⟩) h2).trans (by rw [h3 k h, HFK.out h])⟩
    have cG : k < m → ∃ b off, A' = some ⟨b, off, none⟩ ∧ wr.cell? ⟨b, off + k, none⟩ = some (.int .u8 (y : Nat)) := fun h => by
      rcases HR'.out with h0 | ⟨b, off, h1, h2, h3⟩
      · omega
      · exact ⟨b, off, h1, (HL.out.cell (p := ⟨b, off + k, none⟩) h2).trans (by rw [h3 k h, HGK.out h])⟩
    have CF := Lib.hid cF
    have CG := Lib.hid cG
    clear cF cG
    by_cases h1 : k < n
    · obtain ⟨b, off, rfl, cell1⟩ := CF.out h1
      have d1 : decide ((k : Int) < (n : Int)) = true := decide_eq_true (by omega)
      by_cases h2 : k < m
      · obtain ⟨b', off', rfl, cell2⟩ := CG.out h2
        have d2 : decide ((k : Int) < (m : Int)) = true := decide_eq_true (by omega)
        have HV := Lib.hid (show ((u : Int) + (x : Int) + (y : Int)) % 256 = (byt S k : Nat) by rw [HBY.out]; omega)
        have HQ := Lib.hid (show ((u : Int) + (x : Int) + (y : Int)) / 256 = (cry F G (k + 1) : Nat) by rw [HST.out]; omega)
        go_wp2_with (at_builtin; refine wpList_push rfl _ _ rfl rfl rfl HO.out HL.out hsz HV.out (by omega) ?_; intro A2 c2 w1 hown1 hbel1 hsz1; have HO1 := Lib.hid hown1; have HL1 := Lib.hid hbel1; clear hown1 hbel1)
        go_roundw
        case rel => exact ⟨k + 1, A2, c2, by omega, fun he => by omega, by go_num, by rw [HQ.out], rfl, HO1.out, HL1.out⟩
        case measure => simp [intOf]; omega
      · have y0 := HG0.out (by omega)
        have d2 : decide ((k : Int) < (m : Int)) = false := decide_eq_false (by omega)
        have HV := Lib.hid (show ((u : Int) + (x : Int)) % 256 = (byt S k : Nat) by rw [HBY.out]; omega)
        have HQ := Lib.hid (show ((u : Int) + (x : Int)) / 256 = (cry F G (k + 1) : Nat) by rw [HST.out]; omega)
        clear y0
        go_wp2_with (at_builtin; refine wpList_push rfl _ _ rfl rfl rfl HO.out HL.out hsz HV.out (by omega) ?_; intro A2 c2 w1 hown1 hbel1 hsz1; have HO1 := Lib.hid hown1; have HL1 := Lib.hid hbel1; clear hown1 hbel1)
        go_roundw
        case rel => exact ⟨k + 1, A2, c2, by omega, fun he => by omega, by go_num, by rw [HQ.out], rfl, HO1.out, HL1.out⟩
        case measure => simp [intOf]; omega
    · have x0 := HF0.out (by omega)
      have d1 : decide ((k : Int) < (n : Int)) = false := decide_eq_false (by omega)
      by_cases h2 : k < m
      · obtain ⟨b', off', rfl, cell2⟩ := CG.out h2
        have d2 : decide ((k : Int) < (m : Int)) = true := decide_eq_true (by omega)
        have HV := Lib.hid (show ((u : Int) + (y : Int)) % 256 = (byt S k : Nat) by rw [HBY.out]; omega)
        have HQ := Lib.hid (show ((u : Int) + (y : Int)) / 256 = (cry F G (k + 1) : Nat) by rw [HST.out]; omega)
        clear x0
        go_wp2_with (at_builtin; refine wpList_push rfl _ _ rfl rfl rfl HO.out HL.out hsz HV.out (by omega) ?_; intro A2 c2 w1 hown1 hbel1 hsz1; have HO1 := Lib.hid hown1; have HL1 := Lib.hid hbel1; clear hown1 hbel1)
        go_roundw
        case rel => exact ⟨k + 1, A2, c2, by omega, fun he => by omega, by go_num, by rw [HQ.out], rfl, HO1.out, HL1.out⟩
        case measure => simp [intOf]; omega
      · have y0 := HG0.out (by omega)
        have d2 : decide ((k : Int) < (m : Int)) = false := decide_eq_false (by omega)
        by_cases hu : u = 0
        · subst hu
          have HS := Lib.hid (HUP.out (by omega) (by omega) rfl)
          clear x0 y0
          go_wp2_with fail
          go_ret
          exact ⟨A1, k, c1, rfl, HO.out, HS.out, by omega, HL.out⟩
        · obtain rfl : u = 1 := by omega
          have hkm : k < max n m + 1 := by
            rcases Nat.lt_or_ge k (max n m + 1) with h | h
            · exact h
            · exact absurd (HKZ.out (by omega)) (by omega)
          have HV := Lib.hid (show (1 : Int) = (byt S k : Nat) by rw [HBY.out]; omega)
          have HQ := Lib.hid (show 0 = cry F G (k + 1) by rw [HST.out]; omega)
          clear x0 y0 hu
          go_wp2_with (at_builtin; refine wpList_push rfl _ _ rfl rfl rfl HO.out HL.out hsz HV.out (by omega) ?_; intro A2 c2 w1 hown1 hbel1 hsz1; have HO1 := Lib.hid hown1; have HL1 := Lib.hid hbel1; clear hown1 hbel1)
          go_roundw
          case rel => exact ⟨k + 1, A2, c2, by omega, fun _ => HQ.out.symm, by go_num, by rw [← HQ.out]; rfl, rfl, HO1.out, HL1.out⟩
          case measure => simp [intOf]; omega

/-- a number moved up by a byte -/
def shf (V i : Nat) : Nat := if i < 1 then 0 else byt V (i - 1)
theorem shf_lt (V i : Nat) : shf V i < 256 := by
  have := byt_lt V (i - 1)
  unfold shf
  split <;> omega
theorem le_shf (V L : Nat) (h : V < 2 ^ (8 * L)) : le (shf V) 0 (1 + L) = 256 * V := by
  rw [Nat.add_comm 1 L, le_front, show le (shf V) (0 + 1) L = le (byt V) 0 L from le_congr L fun i _ => by
    unfold shf
    rw [if_neg (by omega)]
    congr 1
    omega, le_byt V L h]
  show 256 * V + shf V 0 = 256 * V
  unfold shf
  rw [if_pos (by omega)]
  omega

/-- a product of two rows -/
def TimesPost (w : World) (V K : Nat) (e : Ending) (w' : World) : Prop :=
  ∃ A k c, e = .returned (.slice A k c) ∧ Rd w' A k (byt V) ∧ (A = none → k = 0 ∧ c = 0) ∧ le (byt V) 0 k = V ∧ (k = 0 ∨ byt V (k - 1) ≠ 0) ∧ k ≤ c ∧ k ≤ K ∧ Below w.heap.size w w'

theorem wrap_mul (u x y : Nat) (hu : u < 256) (hx : x < 256) (hy : y < 256) : wrap64 ((u : Int) + wrap64 ((x : Int) * (y : Int))) = ((u + x * y : Nat) : Int) := by
  have h : x * y ≤ 255 * 255 := Nat.mul_le_mul (by omega) (by omega)
  rw [show (x : Int) * (y : Int) = ((x * y : Nat) : Int) by rw [Int.natCast_mul]]
  unfold wrap64
  omega

set_option maxRecDepth 100000 in
set_option maxHeartbeats 1000000 in
theorem times_any (A : Option Addr) (n c : Nat) (f : Nat → Nat) (A' : Option Addr) (m c' : Nat) (g : Nat → Nat) (hf : ∀ i, f i < 256) (hg : ∀ i, g i < 256) (hn : n ≤ 10000) (hm : m ≤ 10000) (w : World) (hr : Rd w A n f) (hr' : Rd w A' m g) :
    Calls Try.prog 37 #[.slice A n c, .slice A' m c'] w (TimesPost w (le f 0 n * le g 0 m) (m + 2 * n)) := by
  have HR := Lib.hid hr
  have HR' := Lib.hid hr'
  have HF := Lib.hid hf
  obtain ⟨G, hG⟩ : ∃ G, zx g m = G := ⟨_, rfl⟩
  obtain ⟨Y, hY⟩ : ∃ Y, le g 0 m = Y := ⟨_, rfl⟩
  have HGL := Lib.hid (show ∀ i, G i < 256 from fun i => by rw [← hG]; exact zx_lt hg m i)
  have HGI := Lib.hid (show ∀ i, i < m → g i = G i from fun i hi => by rw [← hG, zx_in hi])
  have HGO := Lib.hid (show ∀ i, m ≤ i → G i = 0 from fun i hi => by rw [← hG, zx_out hi])
  have HSB := Lib.hid (show ∀ x k, byt (x * Y) k = (mry x G k + x * G k) % 256 from fun x k => by
    rw [← hY, ← hG, ← le_zx g m (max (k + 1) m) (by omega)]
    exact mry_byte x _ k _ (by omega))
  have HSU := Lib.hid (show ∀ x k, m ≤ k → mry x G k = 0 → x * Y < 2 ^ (8 * k) from fun x k h2 h3 => by
    unfold mry at h3
    rw [← hG, le_zx g m k h2, hY] at h3
    rcases Nat.lt_or_ge (x * Y) (2 ^ (8 * k)) with h | h
    · exact h
    · have := Nat.div_pos h (Nat.two_pow_pos (8 * k))
      omega)
  rw [hY]
  clear hr hr' hG hY hf hg
  go_enter Try.func37, Try.ntmps37
  go_wp2_with fail
  go_loopw [5, 6] (fun o i wr => ∃ (j : Nat) (A1 : Option Addr) (L c1 : Nat), j ≤ n ∧ i = .int .i64 ((j : Int) - 1) ∧ o = .slice A1 L c1 ∧ Own wr w.heap.size 5 A1 L c1 (byt (le f j (n - j) * Y)) ∧ le f j (n - j) * Y < 2 ^ (8 * L) ∧ L ≤ m + 2 * (n - j) ∧ Below w.heap.size w wr) (fun _ i _ => (intOf i + 1).toNat)
  case atStart => exact ⟨n, none, 0, 0, Nat.le_refl _, rfl, rfl, Own.nil _ _ _ _, by rw [Nat.sub_self]; simp [le], by omega, Below.refl _ _⟩
  case round =>
    obtain ⟨j, A1, L, c1, hj, rfl, rfl, hown, hV, hL, hbel⟩ := hrel
    have HO := Lib.hid hown
    have HL := Lib.hid hbel
    have HV := Lib.hid hV
    have hsz := hbel.size
    clear hown hbel hV
    by_cases hlt : 0 < j
    · obtain ⟨i, rfl⟩ : ∃ i, j = i + 1 := ⟨j - 1, by omega⟩
      have hji : (((i + 1 : Nat) : Int) - 1) = (i : Int) := by omega
      rw [hji]
      clear hji
      obtain ⟨V, hVE⟩ : ∃ V, le f (i + 1) (n - (i + 1)) * Y = V := ⟨_, rfl⟩
      rw [hVE] at HO HV
      obtain ⟨b, off, hAe, hbw, hcc⟩ : ∃ b off, A = some ⟨b, off, none⟩ ∧ b < w.heap.size ∧ ∀ i, i < n → w.cell? ⟨b, off + i, none⟩ = some (.int .u8 (f i : Nat)) := by
        rcases HR.out with h | ⟨b, off, h1, h2, h3⟩
        · omega
        · exact ⟨b, off, h1, h2, h3⟩
      subst hAe
      have HX := Lib.hid (show ∀ x, Below w.heap.size w x → x.cell? ⟨b, off + i, none⟩ = some (.int .u8 (f i : Nat)) from fun x hx => (hx.cell (p := ⟨b, off + i, none⟩) hbw).trans (hcc i (by omega)))
      have HNV := Lib.hid (show (256 * V + f i * Y) = le f i (n - i) * Y by
        rw [← hVE, show n - i = n - (i + 1) + 1 by omega, le_front f i (n - (i + 1)), Nat.add_mul, Nat.mul_assoc])
      have hfx := HF.out i
      clear hVE hcc
      generalize f i = x at HX HNV hfx
      go_upto_region 6 with (at_builtin; refine wpList_catFrom (T := shf V) rfl (.tmp 18) (.tmp 19) 23 5 (.int .u8 0) 1 Try.underlying23 info_u8 rfl rfl rfl (own_new (f := shf V) hsz rfl (by omega)) (HL.out.alloc hsz _) (Nat.le_trans hsz (by simp)) L c1 A1 rfl (src_own (HO.out.alloc _)) (by omega) (by omega) (fun i hi => by unfold shf; by_cases e : i < 1 <;> simp [e]) ?_)
      intro A2 c2 w2 o2 hb2 hs2 _ _
      have P2 := Lib.hid o2
      have PB := Lib.hid hb2
      have HR2 := Lib.hid (show ∀ x, Below w2.heap.size w2 x → Own x w.heap.size 5 A2 (1 + L) c2 (shf V) from fun x hx => o2.below hx (Nat.le_refl _))
      clear o2 hb2 HO HL
      go_wp2_with fail
      go_loopw [8, 9, 10] (fun o cc ii wx => ∃ (k : Nat) (A3 : Option Addr) (c3 : Nat), k ≤ m + 1 ∧ (k = m + 1 → mry x G k = 0) ∧ ii = .int .i64 k ∧ cc = .int .i64 (mry x G k : Nat) ∧ o = .slice A3 k c3 ∧ Own wx w2.heap.size 5 A3 k c3 (byt (x * Y)) ∧ Below w2.heap.size w2 wx) (fun _ _ ii _ => m + 2 - (intOf ii).toNat)
      case atStart => exact ⟨0, none, 0, Nat.zero_le _, fun _ => mry_zero _ _, rfl, by rw [mry_zero]; rfl, rfl, Own.nil _ _ _ _, Below.refl _ _⟩
      case round =>
        obtain ⟨k, A3, c3, hk, hkz, rfl, rfl, rfl, o3, hb3⟩ := hrel
        have Q3 := Lib.hid o3
        have QB := Lib.hid hb3
        have HKZ := Lib.hid hkz
        have hs3 := hb3.size
        have b3 := mry_le hfx HGL.out k
        have b2 := HGL.out k
        have HST := Lib.hid (mry_step x G k)
        have HBY := Lib.hid (HSB.out x k)
        have HUP := Lib.hid (HSU.out x k)
        have HG0 := Lib.hid (HGO.out k)
        have HGK := Lib.hid (HGI.out k)
        clear o3 hb3 hkz
        generalize hcr : mry x G k = u at b3 HST HBY HUP HKZ ⊢
        generalize hGy : G k = y at b2 HST HBY HG0 HGK
        have HCR := Lib.hid hcr
        clear hcr hGy
        by_cases h2 : k < m
        · obtain ⟨b', off', hAe, cell2⟩ : ∃ b off, A' = some ⟨b, off, none⟩ ∧ wr.cell? ⟨b, off + k, none⟩ = some (.int .u8 (y : Nat)) := by
            rcases HR'.out with h0 | ⟨b, off, h1, h2', h3⟩
            · omega
            · exact ⟨b, off, h1, (QB.out.cell (p := ⟨b, off + k, none⟩) (by show b < w2.heap.size; omega)).trans ((PB.out.cell (p := ⟨b, off + k, none⟩) h2').trans (by rw [h3 k h2, HGK.out h2]))⟩
          subst hAe
          have cell1 := HX.out wr (PB.out.trans (QB.out.mono hs2))
          have d2 : decide ((k : Int) < (m : Int)) = true := decide_eq_true (by omega)
          have d3 : (k : Int) < (m : Int) := by omega
          have HW := Lib.hid (wrap_mul u x y b3 hfx b2)
          have HV3 := Lib.hid (show ((u + x * y : Nat) : Int) % 256 = (byt (x * Y) k : Nat) by rw [HBY.out]; omega)
          have HQ3 := Lib.hid (show ((u + x * y : Nat) : Int) / 256 = (mry x G (k + 1) : Nat) by rw [HST.out]; omega)
          have i3 : u + x * y < 100000 := by
            have : x * y ≤ 255 * 255 := Nat.mul_le_mul (by omega) (by omega)
            omega
          generalize u + x * y = z at HW HV3 HQ3 i3
          go_wp2_with fail
          go_quiet (fail)
          rw [HW.out]
          go_wp2_with (at_builtin; refine wpList_push rfl _ _ rfl rfl rfl (Q3.out.drewN _) (below_drewN QB.out _) hs3 HV3.out (by omega) ?_; intro A4 c4 w4 hown1 hbel1 hsz1; have HO1 := Lib.hid hown1; have HL1 := Lib.hid hbel1; clear hown1 hbel1)
          go_roundw
          case rel => exact ⟨k + 1, A4, c4, by omega, fun he => by omega, by go_num, by rw [HQ3.out], rfl, HO1.out, HL1.out⟩
          case measure => simp [intOf]; omega
        · have y0 := HG0.out (by omega)
          have d2 : decide ((k : Int) < (m : Int)) = false := decide_eq_false (by omega)
          have e1 : u + x * y = u := by rw [y0, Nat.mul_zero, Nat.add_zero]
          rw [e1] at HST HBY
          clear y0 e1
          by_cases hu : u = 0
          · subst hu
            have HS := Lib.hid (HUP.out (by omega) rfl)
            have HM := Lib.hid (le_byt (x * Y) k HS.out)
            have HSV := Lib.hid (le_shf V L HV.out)
            go_wp2_with fail
            refine (add_any A2 (1 + L) c2 (shf V) A3 k c3 (byt (x * Y)) (shf_lt V) (byt_lt _) (by omega) (by omega) _ (HR2.out _ QB.out).rd Q3.out.rd).mono ?_
            rintro e w5 ⟨A5, k5, c5, rfl, o5, hS5, hk5, hb5⟩
            rw [HSV.out, HM.out, HNV.out] at o5 hS5
            have O5 := Lib.hid (o5.more (B' := w.heap.size) (by omega))
            have S5 := Lib.hid hS5
            have L5 := Lib.hid (PB.out.trans ((QB.out.mono hs2).trans (hb5.mono (by omega))))
            clear o5 hS5 hb5
            go_wp2_with fail
            go_roundw
            case rel => exact ⟨i, A5, k5, c5, by omega, rfl, rfl, O5.out, S5.out, by omega, L5.out⟩
            case measure => simp [intOf]
          · have hkm : k < m + 1 := by
              rcases Nat.lt_or_ge k (m + 1) with h | h
              · exact h
              · exact absurd (HKZ.out (by omega)) hu
            have HV3 := Lib.hid (show (u : Int) % 256 = (byt (x * Y) k : Nat) by rw [HBY.out]; omega)
            have HQ3 := Lib.hid (show (u : Int) / 256 = (mry x G (k + 1) : Nat) by rw [HST.out]; omega)
            have HQ4 := Lib.hid (show mry x G (k + 1) = 0 by rw [HST.out]; omega)
            have d4 : 0 < u := by omega
            clear hu
            go_wp2_with (at_builtin; refine wpList_push rfl _ _ rfl rfl rfl Q3.out QB.out hs3 HV3.out (by omega) ?_; intro A4 c4 w4 hown1 hbel1 hsz1; have HO1 := Lib.hid hown1; have HL1 := Lib.hid hbel1; clear hown1 hbel1)
            go_roundw
            case rel => exact ⟨k + 1, A4, c4, by omega, fun _ => HQ4.out, by go_num, by rw [HQ3.out], rfl, HO1.out, HL1.out⟩
            case measure => simp [intOf]; omega
    · obtain rfl : j = 0 := by omega
      have HN := Lib.hid (le_byt _ L HV.out)
      rw [Nat.sub_zero] at HO HN
      have HB := Lib.hid HO.out.rd
      have hcap := own_cap HO.out
      have hnone := own_at HO.out
      go_wp2_with fail
      refine (trim_any A1 L c1 (byt (le f 0 n * Y)) hcap (by omega) _ HB.out).mono ?_
      rintro e w5 ⟨k, hk, rfl, hle, htop, rfl⟩
      have HR5 := Lib.hid (rd_front HB.out k hk)
      have HLE := Lib.hid (hle.trans HN.out)
      have HTO := Lib.hid htop
      have HNO := Lib.hid (show A1 = none → k = 0 ∧ c1 = 0 from fun e => by
        subst e
        rcases HO.out.2 with ⟨e, z⟩ | ⟨b, cap, cur, e, _⟩
        · injection e with _ e2 e3
          exact ⟨by omega, e3⟩
        · injection e with e1
          cases e1)
      clear hle htop hnone
      go_wp2_with fail
      go_ret
      exact ⟨A1, k, c1, rfl, HR5.out, HNO.out, HLE.out, HTO.out, by omega, by omega, HL.out⟩

end Ref
end Go.Proofs.Ytdffbjlbhjppeaa
