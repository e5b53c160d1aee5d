/- 'aditlaw03.PolyOne' returns true at every input and writes nothing that was there: the walk. No condition. -/
import Derived.Test.YtdffbjlbhjppeaaMore
import Derived.Test.YtdffbjlbhjppeaaApart
import Derived.Test.YtdffbjlbhjppeaaSlices
namespace Go.Proofs.Ytdffbjlbhjppeaa
namespace PolyOne
open Go.ChangeShapes Go.WideShapes Go.ChangeAt Go.RowKit
open Num Mem Words PolyN Chacha Quiet Poly PolyNought

theorem rk_one : rk oneKey = 1 := by decide +kernel
theorem half_one : le oneKey 16 16 = 0 := by decide +kernel

/-- a text's bytes, and a 1 behind -/
def wantOf (f : Nat → Nat) (n k i : Nat) : Nat := if i < k then f i else if k = n + 1 ∧ i = n then 1 else 0

theorem sum_short (f : Nat → Nat) (hf : ∀ i, f i < 256) (n : Nat) (hn : n ≤ 15) (h0 : 0 < n) : ∀ i, i < 16 → sumAt oneKey f n i = pce f n n i := by
  intro i hi
  have e : mac 1 false 0 f n = pn f n n := by
    rw [mac_step 1 false 0 f n h0, show n - 16 = 0 by omega, mac_zero, show min n 16 = n by omega]
    simp only [Bool.false_eq_true, if_false]
    unfold stp
    rw [Nat.mul_one, Nat.zero_add]
    refine Nat.mod_eq_of_lt ?_
    have h := le_lt (pce_lt hf n n) 0 16
    unfold pn
    rw [show le (pce f n n) 0 17 = le (pce f n n) 0 16 + pce f n n (0 + 16) * 2 ^ (8 * 16) from rfl, show pce f n n (0 + 16) = 0 by unfold pce; rw [if_neg (by omega), if_neg (by omega)], Nat.zero_mul, Nat.add_zero]
    refine Nat.lt_of_lt_of_le h ?_
    decide +kernel
  unfold sumAt tag
  rw [rk_one, half_one, e, Nat.add_zero]
  unfold pn
  rw [byteAt_le _ (pce_lt hf n n) 0 17 i (by omega), Nat.zero_add]
theorem sum_none (f : Nat → Nat) : ∀ i, i < 16 → sumAt oneKey f 0 i = 0 := by
  intro i hi
  unfold sumAt tag
  rw [mac_zero, half_one]
  unfold byteAt
  rw [Nat.add_zero, Nat.zero_div]

/-! ### the order of whole pieces -/
def sumTo (G : Nat → Nat) : Nat → Nat
  | 0 => 0
  | k + 1 => sumTo G k + G k
theorem sumTo_front (G : Nat → Nat) (m : Nat) : sumTo G (m + 1) = G 0 + sumTo (fun i => G (i + 1)) m := by
  induction m with
  | zero => simp [sumTo]
  | succ m ih => rw [sumTo, ih, sumTo]; omega
theorem sumTo_congr {G H : Nat → Nat} (m : Nat) (h : ∀ i, i < m → G i = H i) : sumTo G m = sumTo H m := by
  induction m with
  | zero => rfl
  | succ m ih => rw [sumTo, sumTo, ih (fun i hi => h i (by omega)), h m (by omega)]
theorem sumTo_turned (G : Nat → Nat) (m : Nat) : sumTo (fun i => G (m - 1 - i)) m = sumTo G m := by
  induction m with
  | zero => rfl
  | succ m ih =>
    rw [sumTo_front, sumTo, Nat.add_comm]
    congr 1
    rw [← ih]
    exact sumTo_congr m fun i hi => by rw [show m + 1 - 1 - (i + 1) = m - 1 - i by omega]
theorem mac_pieces : ∀ (m a : Nat) (T : Nat → Nat), mac 1 false a T (16 * m) % P = (a + sumTo (fun i => pn (fun j => T (16 * i + j)) 16 16) m) % P := by
  intro m
  induction m with
  | zero => intro a T; rfl
  | succ m ih =>
    intro a T
    rw [mac_step 1 false a T (16 * (m + 1)) (by omega), show 16 * (m + 1) - 16 = 16 * m by omega, show min (16 * (m + 1)) 16 = 16 by omega, ih, sumTo_front]
    simp only [Bool.false_eq_true, if_false]
    unfold stp
    rw [Nat.mul_one, Nat.mod_add_mod, Nat.add_assoc]
    have e1 : pn T 16 16 = pn (fun j => T (16 * 0 + j)) 16 16 := pn_congr fun i _ => by show T i = T (16 * 0 + i); rw [Nat.mul_zero, Nat.zero_add]
    have e2 : sumTo (fun i => pn (fun j => T (16 + (16 * i + j))) 16 16) m = sumTo (fun i => pn (fun j => T (16 * (i + 1) + j)) 16 16) m := sumTo_congr m fun i _ => pn_congr fun j _ => by show T (16 + (16 * i + j)) = T (16 * (i + 1) + j); rw [show 16 + (16 * i + j) = 16 * (i + 1) + j by omega]
    rw [e1, e2]
/-- pieces, one behind the other -/
def flat (F : Nat → Nat → Nat) (i : Nat) : Nat := F (i / 16) (i % 16)
theorem mac_flat (F : Nat → Nat → Nat) (m : Nat) : mac 1 false 0 (flat F) (16 * m) = sumTo (fun i => pn (F i) 16 16) m % P := by
  rw [← Nat.mod_eq_of_lt (mac_lt 1 false (16 * m) 0 (flat F) P_pos), mac_pieces, Nat.zero_add]
  refine congrArg (fun x => x % P) (sumTo_congr m fun i _ => pn_congr fun j hj => ?_)
  · unfold flat
    rw [show (16 * i + j) / 16 = i by omega, show (16 * i + j) % 16 = j by omega]
theorem orders (F : Nat → Nat → Nat) (m : Nat) : sumAt oneKey (flat F) (16 * m) = sumAt oneKey (flat fun i => F (m - 1 - i)) (16 * m) := by
  unfold sumAt
  rw [rk_one, mac_flat, mac_flat, sumTo_turned (fun i => pn (F i) 16 16) m]

theorem flat_step (F : Nat → Nat → Nat) (k i : Nat) (h : i < 16 * k + 16) : flat F i = if i < 16 * k then flat F i else F k (i - 16 * k) := by
  split
  · rfl
  · rename_i l
    unfold flat
    rw [show i / 16 = k by omega, show i % 16 = i - 16 * k by omega]
theorem flat_back (F : Nat → Nat → Nat) (m k i : Nat) (h : i < 16 * k + 16) : flat (fun i => F (m - 1 - i)) i = if i < 16 * k then flat (fun i => F (m - 1 - i)) i else F (m - 1 - k) (i - 16 * k) := flat_step _ k i h
theorem flat_lt {F : Nat → Nat → Nat} (h : ∀ i j, F i j < 256) (i : Nat) : flat F i < 256 := h _ _

theorem wantOf_lt {f : Nat → Nat} (h : ∀ i, f i < 256) (n k i : Nat) : wantOf f n k i < 256 := by
  have := h i
  unfold wantOf
  split
  · exact this
  · split <;> omega
theorem wantOf_set (f : Nat → Nat) (n k i : Nat) (hk : k < n) : (if i = k then f k else wantOf f n k i) = wantOf f n (k + 1) i := by
  unfold wantOf
  by_cases e : i = k
  · subst e
    rw [if_pos rfl, if_pos (by omega)]
  · rw [if_neg e]
    by_cases l : i < k
    · rw [if_pos l, if_pos (by omega)]
    · rw [if_neg l, if_neg (by omega), if_neg (by omega), if_neg (by omega)]
theorem wantOf_end (f : Nat → Nat) (n i : Nat) : (if i = n then 1 else wantOf f n n i) = pce f n n i := by
  unfold wantOf pce
  by_cases e : i = n
  · rw [if_pos e, if_neg (by omega), if_pos e]
  · rw [if_neg e]
    by_cases l : i < n
    · rw [if_pos l, if_pos l]
    · rw [if_neg l, if_neg (by omega), if_neg l, if_neg e]

theorem one_built : Try.prog.built 22 [(0, .int .u8 1)] = some (byteCells oneKey 32).toArray := by kernel_rfl
theorem none_built : Try.prog.built 25 [] = some (byteCells zeros 16).toArray := by kernel_rfl
theorem wpList_built0 {P : Program} {ops : Array Oper} {rest : List Oper} {o : Oper} {a : Act} {w : World} {Q : Exit → Act → World → Prop} (hg : o.guard = none) (t : TypeId) (ho : o.op = .build t #[])
    (vs : Array Value) (hb : P.built t [] = some vs) (h : wpList P ops Q rest (a.put o.dst (.agg vs)) w) : wpList P ops Q (o :: rest) a w := by
  have e : P.built t ((#[] : Array (Nat × Operand)).map fun (i, x) => (i, a.eval x)).toList = some vs := by simpa using hb
  refine wpList_build hg t #[] ho (by rw [e]; rfl) ?_
  rw [e]
  exact h
theorem wpList_built1 {P : Program} {ops : Array Oper} {rest : List Oper} {o : Oper} {a : Act} {w : World} {Q : Exit → Act → World → Prop} (hg : o.guard = none) (t : TypeId) (x : Operand) (ho : o.op = .build t #[(0, x)])
    (v : Value) (hx : a.eval x = v) (vs : Array Value) (hb : P.built t [(0, v)] = some vs) (h : wpList P ops Q rest (a.put o.dst (.agg vs)) w) : wpList P ops Q (o :: rest) a w := by
  have e : P.built t ((#[(0, x)] : Array (Nat × Operand)).map fun (i, x) => (i, a.eval x)).toList = some vs := by simpa [hx] using hb
  refine wpList_build hg t #[(0, x)] ho (by rw [e]; rfl) ?_
  rw [e]
  exact h
theorem own_cap {w : World} {B t k c : Nat} {A : Option Addr} {f : Nat → Nat} (h : Own w B t A k c f) : k ≤ c := by
  rcases h.2 with ⟨e, h0⟩ | ⟨g, cap, cur, e, _, _, h1, _⟩
  · omega
  · injection e with _ _ e3
    subst e3
    exact h1
theorem apart_low {w : World} {B t k c : Nat} {A : Option Addr} {f : Nat → Nat} (h : Own w (B + 1) t A k c f) : Apart (some ⟨B, 0, none⟩) A := by
  rintro x x' e rfl
  injection e with e
  subst e
  rcases own_at h with h0 | ⟨g, e, hg, _⟩
  · cases h0
  · injection e with e
    subst e
    show B ≠ g
    omega
theorem info_u8' : (Try.prog.info? 5).map (fun i => (i.zero, i.size, i.bytes)) = some (some (.int .u8 0), 1, 1) := by kernel_rfl

set_option maxRecDepth 100000 in
theorem bigB (A : Option Addr) (n c : Nat) (A1 : Option Addr) (m c1 : Nat) (h : 15 < n) (w : World) :
    Calls Try.prog 7 #[.slice A n c, .slice A1 m c1] w fun e w' => e = .returned (.bool true) ∧ Below w.heap.size w w' := by
  have hd : decide ((15 : Int) < (n : Int)) = true := decide_eq_true (by omega)
  go_enter Try.func7, Try.ntmps7
  go_wp2_with fail
  refine (alive_any _).mono ?_
  rintro e w1 ⟨rfl, hb1⟩
  have HB := Lib.hid hb1
  clear hb1
  go_wp2_with fail
  go_ret
  exact ⟨rfl, HB.out⟩

set_option maxRecDepth 100000 in
theorem bigP (A : Option Addr) (n c : Nat) (A1 : Option Addr) (m c1 : Nat) (h : n ≤ 15) (h2 : 50 < m) (w : World) :
    Calls Try.prog 7 #[.slice A n c, .slice A1 m c1] w fun e w' => e = .returned (.bool true) ∧ Below w.heap.size w w' := by
  have hd : decide ((15 : Int) < (n : Int)) = false := decide_eq_false (by omega)
  have hd2 : decide ((50 : Int) < (m : Int)) = true := decide_eq_true (by omega)
  go_enter Try.func7, Try.ntmps7
  go_wp2_with fail
  refine (alive_any _).mono ?_
  rintro e w1 ⟨rfl, hb1⟩
  have HB := Lib.hid hb1
  clear hb1
  go_wp2_with fail
  go_ret
  exact ⟨rfl, HB.out⟩


set_option maxRecDepth 100000 in
set_option maxHeartbeats 1000000 in
theorem fits (w : World) (A : Option Addr) (n c : Nat) (f : Nat → Nat) (hf : ∀ i, f i < 256) (hc : n ≤ c) (A1 : Option Addr) (m c1 : Nat) (F : Nat → Nat → Nat) (h1 : Arr.IsArrs w A1 m c1 16 F) (hA : Rd w A n f) (hn : n ≤ 15) (hm : m ≤ 50) :
    Calls Try.prog 7 #[.slice A n c, .slice A1 m c1] w fun e w' => e = .returned (.bool true) ∧ Below w.heap.size w w' := by
  have hd : decide ((15 : Int) < (n : Int)) = false := decide_eq_false (by omega)
  have hd2 : decide ((50 : Int) < (m : Int)) = false := decide_eq_false (by omega)
  have HF := Lib.hid hf
  have HA := Lib.hid hA
  have H1 := Lib.hid h1
  clear hf hA h1
  go_enter Try.func7, Try.ntmps7
  go_upto_region 4 with fail
  refine cut_world (fun W => Whole W w.heap.size 25 (byteCells (wantOf f n 0) 16).toArray ∧ Below w.heap.size w W) ⟨?_, below_alloc (Below.refl _ _) _⟩ ?_
  · rw [byteCells_congr (f := wantOf f n 0) (g := fun _ => 0) (n := 16) (fun i _ => by unfold wantOf; rw [if_neg (by omega), if_neg (by omega)])]
    exact whole_new _ _ rfl
  rintro W ⟨k1, kb⟩
  have K1 := Lib.hid k1
  have KB := Lib.hid kb
  clear k1 kb
  generalize hB : w.heap.size = B at K1 KB ⊢
  go_wp2_with fail
  go_loopw [6] (fun i wr => ∃ k : Nat, k ≤ n ∧ i = .int .i64 k ∧ Whole wr B 25 (byteCells (wantOf f n k) 16).toArray ∧ Below B w wr) (fun i _ => n - (intOf i).toNat)
  case atStart => exact ⟨0, by omega, rfl, K1.out, KB.out⟩
  case round =>
    obtain ⟨k, hk, rfl, q1, qb⟩ := hrel
    have Q1 := Lib.hid q1
    have QB := Lib.hid qb
    by_cases hlt : k < n
    · obtain ⟨b, off, hAe, hbl, hcc⟩ : ∃ b off, A = some ⟨b, off, none⟩ ∧ b < w.heap.size ∧ ∀ i, i < n → w.cell? ⟨b, off + i, none⟩ = some (.int .u8 (f i : Nat)) := by
        rcases HA.out with h | ⟨b, off, h1, h2, h3⟩
        · omega
        · exact ⟨b, off, h1, h2, h3⟩
      subst hAe
      have c1 := (qb.cell (p := ⟨b, off + k, none⟩) (by show b < B; omega)).trans (hcc k hlt)
      have c2 := q1.cell k
      have f2 := q1.free k
      rw [List.getElem?_toArray, byteCells_get _ _ _ (by omega)] at c2
      clear q1 qb hcc
      go_wp2_with fail
      go_roundw
      case rel =>
        refine ⟨k + 1, by omega, by go_num, ?_, QB.out.setCell (by simp) _⟩
        have h := Q1.out.put k (.int .u8 (f k : Nat))
        rw [byteCells_set, byteCells_congr (fun i _ => wantOf_set f n k i hlt)] at h
        exact h
      case measure => simp [intOf]; omega
    · obtain rfl : k = n := by omega
      have c2 := q1.cell k
      have f2 := q1.free k
      rw [List.getElem?_toArray, byteCells_get _ _ _ (by omega)] at c2
      clear q1 qb
      go_upto_region 9 with fail
      refine cut_world (fun W => Whole W B 25 (byteCells (pce f k k) 16).toArray ∧ Below B w W) ⟨?_, QB.out.setCell (by simp) _⟩ ?_
      · have h := Q1.out.put k (.int .u8 (1 : Nat))
        rw [byteCells_set, byteCells_congr (fun i _ => wantOf_end f k i)] at h
        exact h
      rintro W2 ⟨k1, kb⟩
      have K1 := Lib.hid k1
      have KB := Lib.hid kb
      clear k1 kb Q1 QB c2 f2
      go_wp2_with fail
      go_loopw [7, 8, 9] (fun s7 s8 i wr => ∃ (j : Nat) (A7 A8 : Option Addr) (c7 c8 : Nat), j ≤ m ∧ i = .int .i64 j ∧ s7 = .slice A7 (16 * j) c7 ∧ s8 = .slice A8 (16 * j) c8 ∧ Own wr (B + 1) 5 A7 (16 * j) c7 (flat F) ∧ Own wr (B + 1) 5 A8 (16 * j) c8 (flat fun i => F (m - 1 - i)) ∧ Apart A7 A8 ∧ Below (B + 1) W2 wr) (fun _ _ i _ => m - (intOf i).toNat)
      case atStart => exact ⟨0, none, none, 0, 0, by omega, rfl, by simp, by simp, Own.nil _ _ _ _, Own.nil _ _ _ _, Apart.nil _, Below.refl _ _⟩
      case round =>
        obtain ⟨j, A7, A8, c7, c8, hj, rfl, rfl, rfl, o7, o8, hap, qb⟩ := hrel
        have O7 := Lib.hid o7
        have O8 := Lib.hid o8
        have QB := Lib.hid qb
        have HAP := Lib.hid hap
        have hlw := K1.out.lt
        have hlb := qb.size
        clear o7 o8 qb hap
        by_cases hlj : j < m
        · obtain ⟨pb, po, hAe, hpb, hpc⟩ : ∃ b off, A1 = some ⟨b, off, none⟩ ∧ b < w.heap.size ∧ ∀ i, i < m → ∀ j, j < 16 → w.cell? ⟨b, off + (i * 16 + j), none⟩ = some (.int .u8 (F i j : Nat)) := by
            rcases H1.out.2.2.2 with h | ⟨b, off, h1, h2, h3⟩
            · omega
            · exact ⟨b, off, h1, h2, h3⟩
          subst hAe
          have i1 : (j : Int) < (m : Int) := by omega
          have HPC := Lib.hid hpc
          clear hpc
          obtain ⟨j2, hj2⟩ : ∃ x, m - 1 - j = x := ⟨_, rfl⟩
          have hj2I : (m : Int) - 1 - (j : Int) = (j2 : Int) := by omega
          have hj2m : j2 < m := by omega
          have HJ2 := Lib.hid hj2
          clear hj2
          have R7 : ∀ x, Below (B + 1) W2 x → ∀ i, i < 16 → x.cell? ⟨pb, po + j * 16 + i, none⟩ = some (.int .u8 (F j i : Nat)) := fun x hx i hi => (hx.cell (p := ⟨pb, po + j * 16 + i, none⟩) (by show pb < B + 1; omega)).trans ((KB.out.cell (p := ⟨pb, po + j * 16 + i, none⟩) (by show pb < B; omega)).trans (by rw [Nat.add_assoc]; exact HPC.out j hlj i hi))
          have R8 : ∀ x, Below (B + 1) W2 x → ∀ i, i < 16 → x.cell? ⟨pb, po + j2 * 16 + i, none⟩ = some (.int .u8 (F (m - 1 - j) i : Nat)) := fun x hx i hi => (hx.cell (p := ⟨pb, po + j2 * 16 + i, none⟩) (by show pb < B + 1; omega)).trans ((KB.out.cell (p := ⟨pb, po + j2 * 16 + i, none⟩) (by show pb < B; omega)).trans (by rw [Nat.add_assoc, HJ2.out]; exact HPC.out j2 hj2m i hi))
          have HR7 := Lib.hid R7
          have HR8 := Lib.hid R8
          clear R7 R8
          go_upto_region 14 with (at_builtin; refine wpList_catAt (T := flat F) rfl (.tmp 41) (.tmp 45) 23 5 (.int .u8 0) 1 Try.underlying23 info_u8' rfl rfl rfl O7.out QB.out (by omega) 16 16 pb (po + j * 16) rfl (HR7.out _ QB.out) (by omega) (by omega) (fun i hi => flat_step F j i hi) ?_)
          intro A7' c7' w7 o7' qb7 hs7 hg7 hat7
          have P7 := Lib.hid o7'
          have P8 := Lib.hid (O8.out.grown hg7 HAP.out)
          have PB := Lib.hid qb7
          have PA := Lib.hid (Apart.moved hat7 HAP.out O8.out o7').symm
          clear o7' qb7 hg7 hat7
          go_wp2_with (at_builtin; refine wpList_catAt (T := flat fun i => F (m - 1 - i)) rfl (.tmp 47) (.tmp 55) 23 5 (.int .u8 0) 1 Try.underlying23 info_u8' rfl rfl rfl P8.out PB.out hs7 16 16 pb (po + j2 * 16) rfl (HR8.out _ PB.out) (by omega) (by omega) (fun i hi => flat_back F m j i hi) ?_; intro A8' c8' w8 o8' qb8 hs8 hg8 hat8; have R7 := Lib.hid (P7.out.grown hg8 PA.out); have R8 := Lib.hid o8'; have RB := Lib.hid qb8; have RA := Lib.hid (Apart.moved hat8 PA.out P7.out o8').symm; clear o8' qb8 hg8 hat8)
          go_roundw
          case rel => exact ⟨j + 1, A7', A8', c7', c8', by omega, by go_num, by first | rfl | (congr 1), by first | rfl | (congr 1), R7.out, R8.out, RA.out, RB.out⟩
          case measure => simp [intOf]; omega
        · obtain rfl : j = m := by omega
          have HE1 := Lib.hid (show k ≠ 0 → ∀ i, i < 16 → sumAt oneKey f k i = pce f k k i from fun h0 => sum_short f HF.out k hn (by omega))
          have HE0 := Lib.hid (show ∀ i, i < 16 → sumAt oneKey f 0 i = zeros i from sum_none f)
          have HOR := Lib.hid (orders F j)
          have HFL := Lib.hid (show ∀ i, flat F i < 256 from flat_lt H1.out.2.2.1)
          have HFL' := Lib.hid (show ∀ i, flat (fun i => F (j - 1 - i)) i < 256 from fun i => H1.out.2.2.1 _ _)
          obtain ⟨T7, hT7⟩ : ∃ x, flat F = x := ⟨_, rfl⟩
          obtain ⟨T8, hT8⟩ : ∃ x, flat (fun i => F (j - 1 - i)) = x := ⟨_, rfl⟩
          rw [hT7] at O7 HFL HOR
          rw [hT8] at O8 HFL' HOR
          clear hT7 hT8
          have Q1 := Lib.hid (K1.out.below QB.out (by omega))
          have Q0 := Lib.hid (KB.out.trans (QB.out.mono (by omega)))
          have hlr := Q1.out.lt
          have HZ16 := Lib.hid (show ∀ f, (byteCells f 16).toArray.size = 16 from fun f => by rw [List.size_toArray, byteCells_length])
          have HZ32 := Lib.hid (show ∀ f, (byteCells f 32).toArray.size = 32 from fun f => by rw [List.size_toArray, byteCells_length])
          by_cases h0 : k = 0
          · have hb0 : ((k : Int) == 0) = true := by rw [h0]; rfl
            have H00 := Lib.hid h0
            clear h0
            go_upto_region 18 with (first | (refine wpList_built1 rfl 22 (.const (.int .u8 1)) rfl (.int .u8 1) rfl (byteCells oneKey 32).toArray one_built ?_) | (refine wpList_built0 rfl 25 rfl (byteCells zeros 16).toArray none_built ?_) | (refine wpList_store_row rfl 22 (.tmp 10) (.tmp 57) rfl wr.heap.size (byteCells oneKey 32).toArray rfl rfl 22 _ (Whole.new _ _ _) (by rw [HZ32.out]; kernel_rfl) (by rw [HZ32.out]; rfl) (bytes_one _ _) ?_) | (refine wpList_store_row rfl 25 (.tmp 5) (.tmp 61) rfl B (byteCells zeros 16).toArray rfl rfl 25 _ (Whole.farRow (Q1.out.alloc _) (by omega) _) (by rw [HZ16.out]; kernel_rfl) (by rw [HZ16.out, HZ16.out]) (bytes_one _ _) ?_))
            try simp only [Act.put]
            obtain ⟨one, hone⟩ : ∃ x, oneKey = x := ⟨_, rfl⟩
            obtain ⟨want, hwant⟩ : ∃ x, zeros = x := ⟨_, rfl⟩
            obtain ⟨S1, hS1⟩ : ∃ x, sumAt oneKey f k = x := ⟨_, rfl⟩
            obtain ⟨S2, hS2⟩ : ∃ x, sumAt oneKey T7 (16 * j) = x := ⟨_, rfl⟩
            have HKO := Lib.hid (show ∀ i, one i < 256 from fun i => by rw [← hone]; exact oneKey_lt i)
            have HWL := Lib.hid (show ∀ i, want i < 256 from fun i => by rw [← hwant]; exact zeros_lt i)
            have HL1 := Lib.hid (show ∀ i, S1 i < 256 from fun i => by rw [← hS1]; exact tag_lt _ _ _)
            have HL2 := Lib.hid (show ∀ i, S2 i < 256 from fun i => by rw [← hS2]; exact tag_lt _ _ _)
            have X1 := Lib.hid (show ∀ i, i < 16 → S1 i = want i from fun i hi => by rw [← hS1, ← hwant]; exact by have h := HE0.out i hi; rw [← H00.out] at h; exact h)
            have C1 := Lib.hid (show ∀ x, Rd x A k f → Calls Try.prog 16 #[.agg (byteCells one 32).toArray, .slice A k c] x fun e w' => e = .returned (.agg (byteCells S1 16).toArray) ∧ Below x.heap.size x w' from fun x hx => by
              rw [← hS1, ← hone]
              exact sum_any oneKey oneKey_lt A k c f HF.out (by omega) hc x hx)
            have C2 := Lib.hid (show ∀ x, Own x (B + 1) 5 A7 (16 * j) c7 T7 → Calls Try.prog 16 #[.agg (byteCells one 32).toArray, .slice A7 (16 * j) c7] x fun e w' => e = .returned (.agg (byteCells S2 16).toArray) ∧ Below x.heap.size x w' from fun x hx => by
              rw [← hS2, ← hone]
              exact sum_any oneKey oneKey_lt A7 (16 * j) c7 T7 HFL.out (by omega) (own_cap hx) x hx.rd)
            have C3 := Lib.hid (show ∀ x, Own x (B + 1) 5 A8 (16 * j) c8 T8 → Calls Try.prog 16 #[.agg (byteCells one 32).toArray, .slice A8 (16 * j) c8] x fun e w' => e = .returned (.agg (byteCells S2 16).toArray) ∧ Below x.heap.size x w' from fun x hx => by
              rw [← hS2, ← hone, HOR.out]
              exact sum_any oneKey oneKey_lt A8 (16 * j) c8 T8 HFL'.out (by omega) (own_cap hx) x hx.rd)
            have E1 := Lib.hid (fun w => run_eql_arr (P := Try.prog) 25 5 16 Try.underlying25 Try.underlying5 size_u8 S1 want HL1.out HWL.out true (by simp only [true_iff]; exact X1.out) w)
            have E2 := Lib.hid (fun w => run_eql_arr (P := Try.prog) 25 5 16 Try.underlying25 Try.underlying5 size_u8 S2 S2 HL2.out HL2.out true (by simp) w)
            try rw [hwant]
            simp only [hone]
            refine cut_world (fun X => Whole X B 25 (byteCells want 16).toArray ∧ Whole X wr.heap.size 22 (byteCells one 32).toArray ∧ Own X (B + 1) 5 A7 (16 * j) c7 T7 ∧ Own X (B + 1) 5 A8 (16 * j) c8 T8 ∧ Below B w X) ⟨setRow_heap _ _ _ _ _ _ (Whole.farRow (Q1.out.alloc _) (by omega) _), Whole.farRow (setRow_heap _ _ _ _ _ _ (Whole.new _ _ _)) (by omega) _, (O7.out.below (below_setRow (below_alloc (Below.refl _ _) _) (Nat.le_refl _) _) (Nat.le_refl _)).grown (A := some ⟨B, 0, none⟩) (k := 0) (c := 0) (grown_setRow _ B _) (apart_low O7.out), (O8.out.below (below_setRow (below_alloc (Below.refl _ _) _) (Nat.le_refl _) _) (Nat.le_refl _)).grown (A := some ⟨B, 0, none⟩) (k := 0) (c := 0) (grown_setRow _ B _) (apart_low O8.out), below_setRow (below_setRow (Q0.out.alloc (by omega) _) (by omega) _) (by omega) _⟩ ?_
            rintro W9 ⟨q1, q2, o7, o8, qb⟩
            have Q1' := Lib.hid q1
            have Q2 := Lib.hid q2
            have P7 := Lib.hid o7
            have P8 := Lib.hid o8
            have QB' := Lib.hid qb
            have HR := Lib.hid (HA.out.below qb (by omega))
            have hl9 := q1.lt
            clear q1 q2 o7 o8 qb O7 O8 Q1 Q0 hone hwant hS1 hS2 X1 HE1 HE0 HOR
            generalize wr.heap.size = g2 at Q2 ⊢
            refine q_start (by kernel_rfl) (by kernel_rfl) ?_
            refine q_call (.bool true) 14 (#[]) (by rfl) (by intro w; go_simp; try with_reducible rfl) (fun x hx => (alive_any x).mono fun e w' ⟨he, hb⟩ => ⟨he, below_trans hx hb⟩) ?_
            try simp only [Act.put, List.setIfInBounds_toArray, List.set_cons_zero, List.set_cons_succ]
            refine q_take _ (by rfl) (by intro w _; go_simp; with_reducible rfl) ?_
            try simp only [Act.put, List.setIfInBounds_toArray, List.set_cons_zero, List.set_cons_succ]
            refine q_take _ (by rfl) (fun x hx => run_load_in 22 (.tmp 10) rfl (g2) rfl (byteCells (one) 32).toArray 32 (by rw [List.size_toArray, byteCells_length]) ((Q2.out).below hx (Q2.out).lt) rfl rfl (by kernel_rfl)) ?_
            try simp only [Act.put, List.setIfInBounds_toArray, List.set_cons_zero, List.set_cons_succ]
            refine q_take _ (by rfl) (by intro w _; go_simp; with_reducible rfl) ?_
            try simp only [Act.put, List.setIfInBounds_toArray, List.set_cons_zero, List.set_cons_succ]
            refine q_call (.agg (byteCells S1 16).toArray) 16 (#[.agg (byteCells one 32).toArray, .slice A k c]) (by rfl) (by intro w; go_simp; try with_reducible rfl) (fun x hx => (C1.out x (HR.out.below hx (Nat.le_refl _))).mono fun e w' ⟨he, hb⟩ => ⟨he, below_trans hx hb⟩) ?_
            try simp only [Act.put, List.setIfInBounds_toArray, List.set_cons_zero, List.set_cons_succ]
            refine q_take _ (by rfl) (fun x hx => run_load_in 25 (.tmp 5) rfl (B) rfl (byteCells (want) 16).toArray 16 (by rw [List.size_toArray, byteCells_length]) ((Q1'.out).below hx (Q1'.out).lt) rfl rfl (by kernel_rfl)) ?_
            try simp only [Act.put, List.setIfInBounds_toArray, List.set_cons_zero, List.set_cons_succ]
            refine q_take _ (by rfl) (by intro w _; go_simp; simp only [E1.out, Result.andThen_ok]; with_reducible rfl) ?_
            try simp only [Act.put, List.setIfInBounds_toArray, List.set_cons_zero, List.set_cons_succ]
            refine q_take _ (by rfl) (by intro w _; go_simp; with_reducible rfl) ?_
            try simp only [Act.put, List.setIfInBounds_toArray, List.set_cons_zero, List.set_cons_succ]
            refine q_take _ (by rfl) (by intro w _; go_simp; with_reducible rfl) ?_
            try simp only [Act.put, List.setIfInBounds_toArray, List.set_cons_zero, List.set_cons_succ]
            refine q_take _ (by rfl) (fun x hx => run_load_in 22 (.tmp 10) rfl (g2) rfl (byteCells (one) 32).toArray 32 (by rw [List.size_toArray, byteCells_length]) ((Q2.out).below hx (Q2.out).lt) rfl rfl (by kernel_rfl)) ?_
            try simp only [Act.put, List.setIfInBounds_toArray, List.set_cons_zero, List.set_cons_succ]
            refine q_take _ (by rfl) (by intro w _; go_simp; with_reducible rfl) ?_
            try simp only [Act.put, List.setIfInBounds_toArray, List.set_cons_zero, List.set_cons_succ]
            refine q_call (.agg (byteCells S2 16).toArray) 16 (#[.agg (byteCells one 32).toArray, .slice A7 (16 * j) c7]) (by rfl) (by intro w; go_simp; try with_reducible rfl) (fun x hx => (C2.out x (P7.out.below hx (Nat.le_refl _))).mono fun e w' ⟨he, hb⟩ => ⟨he, below_trans hx hb⟩) ?_
            try simp only [Act.put, List.setIfInBounds_toArray, List.set_cons_zero, List.set_cons_succ]
            refine q_take _ (by rfl) (fun x hx => run_load_in 22 (.tmp 10) rfl (g2) rfl (byteCells (one) 32).toArray 32 (by rw [List.size_toArray, byteCells_length]) ((Q2.out).below hx (Q2.out).lt) rfl rfl (by kernel_rfl)) ?_
            try simp only [Act.put, List.setIfInBounds_toArray, List.set_cons_zero, List.set_cons_succ]
            refine q_take _ (by rfl) (by intro w _; go_simp; with_reducible rfl) ?_
            try simp only [Act.put, List.setIfInBounds_toArray, List.set_cons_zero, List.set_cons_succ]
            refine q_call (.agg (byteCells S2 16).toArray) 16 (#[.agg (byteCells one 32).toArray, .slice A8 (16 * j) c8]) (by rfl) (by intro w; go_simp; try with_reducible rfl) (fun x hx => (C3.out x (P8.out.below hx (Nat.le_refl _))).mono fun e w' ⟨he, hb⟩ => ⟨he, below_trans hx hb⟩) ?_
            try simp only [Act.put, List.setIfInBounds_toArray, List.set_cons_zero, List.set_cons_succ]
            refine q_take _ (by rfl) (by intro w _; go_simp; simp only [E2.out, Result.andThen_ok]; with_reducible rfl) ?_
            try simp only [Act.put, List.setIfInBounds_toArray, List.set_cons_zero, List.set_cons_succ]
            refine q_take _ (by rfl) (by intro w _; go_simp; with_reducible rfl) ?_
            try simp only [Act.put, List.setIfInBounds_toArray, List.set_cons_zero, List.set_cons_succ]
            refine q_take _ (by rfl) (by intro w _; go_simp; with_reducible rfl) ?_
            try simp only [Act.put, List.setIfInBounds_toArray, List.set_cons_zero, List.set_cons_succ]
            refine wpQuiet_nil ?_
            intro w9 hb9
            have HB9 := Lib.hid (QB'.out.trans (hb9.mono (by omega)))
            clear hb9
            go_wp2_with fail
            go_ret
            exact ⟨rfl, by rw [hB]; exact HB9.out⟩
          · have hb0 : ((k : Int) == 0) = false := beq_eq_false_iff_ne.2 (by omega)
            have HPC := Lib.hid (pce_lt HF.out k k)
            have H00 := Lib.hid h0
            clear h0
            go_upto_region 18 with (first | (refine wpList_built1 rfl 22 (.const (.int .u8 1)) rfl (.int .u8 1) rfl (byteCells oneKey 32).toArray one_built ?_) | (refine wpList_store_row rfl 22 (.tmp 10) (.tmp 57) rfl wr.heap.size (byteCells oneKey 32).toArray rfl rfl 22 _ (Whole.new _ _ _) (by rw [HZ32.out]; kernel_rfl) (by rw [HZ32.out]; rfl) (bytes_one _ _) ?_))
            try simp only [Act.put]
            obtain ⟨one, hone⟩ : ∃ x, oneKey = x := ⟨_, rfl⟩
            obtain ⟨want, hwant⟩ : ∃ x, pce f k k = x := ⟨_, rfl⟩
            obtain ⟨S1, hS1⟩ : ∃ x, sumAt oneKey f k = x := ⟨_, rfl⟩
            obtain ⟨S2, hS2⟩ : ∃ x, sumAt oneKey T7 (16 * j) = x := ⟨_, rfl⟩
            have HKO := Lib.hid (show ∀ i, one i < 256 from fun i => by rw [← hone]; exact oneKey_lt i)
            have HWL := Lib.hid (show ∀ i, want i < 256 from fun i => by rw [← hwant]; exact HPC.out i)
            have HL1 := Lib.hid (show ∀ i, S1 i < 256 from fun i => by rw [← hS1]; exact tag_lt _ _ _)
            have HL2 := Lib.hid (show ∀ i, S2 i < 256 from fun i => by rw [← hS2]; exact tag_lt _ _ _)
            have X1 := Lib.hid (show ∀ i, i < 16 → S1 i = want i from fun i hi => by rw [← hS1, ← hwant]; exact HE1.out H00.out i hi)
            have C1 := Lib.hid (show ∀ x, Rd x A k f → Calls Try.prog 16 #[.agg (byteCells one 32).toArray, .slice A k c] x fun e w' => e = .returned (.agg (byteCells S1 16).toArray) ∧ Below x.heap.size x w' from fun x hx => by
              rw [← hS1, ← hone]
              exact sum_any oneKey oneKey_lt A k c f HF.out (by omega) hc x hx)
            have C2 := Lib.hid (show ∀ x, Own x (B + 1) 5 A7 (16 * j) c7 T7 → Calls Try.prog 16 #[.agg (byteCells one 32).toArray, .slice A7 (16 * j) c7] x fun e w' => e = .returned (.agg (byteCells S2 16).toArray) ∧ Below x.heap.size x w' from fun x hx => by
              rw [← hS2, ← hone]
              exact sum_any oneKey oneKey_lt A7 (16 * j) c7 T7 HFL.out (by omega) (own_cap hx) x hx.rd)
            have C3 := Lib.hid (show ∀ x, Own x (B + 1) 5 A8 (16 * j) c8 T8 → Calls Try.prog 16 #[.agg (byteCells one 32).toArray, .slice A8 (16 * j) c8] x fun e w' => e = .returned (.agg (byteCells S2 16).toArray) ∧ Below x.heap.size x w' from fun x hx => by
              rw [← hS2, ← hone, HOR.out]
              exact sum_any oneKey oneKey_lt A8 (16 * j) c8 T8 HFL'.out (by omega) (own_cap hx) x hx.rd)
            have E1 := Lib.hid (fun w => run_eql_arr (P := Try.prog) 25 5 16 Try.underlying25 Try.underlying5 size_u8 S1 want HL1.out HWL.out true (by simp only [true_iff]; exact X1.out) w)
            have E2 := Lib.hid (fun w => run_eql_arr (P := Try.prog) 25 5 16 Try.underlying25 Try.underlying5 size_u8 S2 S2 HL2.out HL2.out true (by simp) w)
            try rw [hwant]
            simp only [hone]
            refine cut_world (fun X => Whole X B 25 (byteCells want 16).toArray ∧ Whole X wr.heap.size 22 (byteCells one 32).toArray ∧ Own X (B + 1) 5 A7 (16 * j) c7 T7 ∧ Own X (B + 1) 5 A8 (16 * j) c8 T8 ∧ Below B w X) ⟨Whole.farRow (by rw [← hwant]; exact Q1.out.alloc _) (by omega) _, setRow_heap _ _ _ _ _ _ (Whole.new _ _ _), O7.out.below (below_setRow (below_alloc (Below.refl _ _) _) (Nat.le_refl _) _) (Nat.le_refl _), O8.out.below (below_setRow (below_alloc (Below.refl _ _) _) (Nat.le_refl _) _) (Nat.le_refl _), below_setRow (Q0.out.alloc (by omega) _) (by omega) _⟩ ?_
            rintro W9 ⟨q1, q2, o7, o8, qb⟩
            have Q1' := Lib.hid q1
            have Q2 := Lib.hid q2
            have P7 := Lib.hid o7
            have P8 := Lib.hid o8
            have QB' := Lib.hid qb
            have HR := Lib.hid (HA.out.below qb (by omega))
            have hl9 := q1.lt
            clear q1 q2 o7 o8 qb O7 O8 Q1 Q0 hone hwant hS1 hS2 X1 HE1 HE0 HOR
            generalize wr.heap.size = g2 at Q2 ⊢
            refine q_start (by kernel_rfl) (by kernel_rfl) ?_
            refine q_call (.bool true) 14 (#[]) (by rfl) (by intro w; go_simp; try with_reducible rfl) (fun x hx => (alive_any x).mono fun e w' ⟨he, hb⟩ => ⟨he, below_trans hx hb⟩) ?_
            try simp only [Act.put, List.setIfInBounds_toArray, List.set_cons_zero, List.set_cons_succ]
            refine q_take _ (by rfl) (by intro w _; go_simp; with_reducible rfl) ?_
            try simp only [Act.put, List.setIfInBounds_toArray, List.set_cons_zero, List.set_cons_succ]
            refine q_take _ (by rfl) (fun x hx => run_load_in 22 (.tmp 10) rfl (g2) rfl (byteCells (one) 32).toArray 32 (by rw [List.size_toArray, byteCells_length]) ((Q2.out).below hx (Q2.out).lt) rfl rfl (by kernel_rfl)) ?_
            try simp only [Act.put, List.setIfInBounds_toArray, List.set_cons_zero, List.set_cons_succ]
            refine q_take _ (by rfl) (by intro w _; go_simp; with_reducible rfl) ?_
            try simp only [Act.put, List.setIfInBounds_toArray, List.set_cons_zero, List.set_cons_succ]
            refine q_call (.agg (byteCells S1 16).toArray) 16 (#[.agg (byteCells one 32).toArray, .slice A k c]) (by rfl) (by intro w; go_simp; try with_reducible rfl) (fun x hx => (C1.out x (HR.out.below hx (Nat.le_refl _))).mono fun e w' ⟨he, hb⟩ => ⟨he, below_trans hx hb⟩) ?_
            try simp only [Act.put, List.setIfInBounds_toArray, List.set_cons_zero, List.set_cons_succ]
            refine q_take _ (by rfl) (fun x hx => run_load_in 25 (.tmp 5) rfl (B) rfl (byteCells (want) 16).toArray 16 (by rw [List.size_toArray, byteCells_length]) ((Q1'.out).below hx (Q1'.out).lt) rfl rfl (by kernel_rfl)) ?_
            try simp only [Act.put, List.setIfInBounds_toArray, List.set_cons_zero, List.set_cons_succ]
            refine q_take _ (by rfl) (by intro w _; go_simp; simp only [E1.out, Result.andThen_ok]; with_reducible rfl) ?_
            try simp only [Act.put, List.setIfInBounds_toArray, List.set_cons_zero, List.set_cons_succ]
            refine q_take _ (by rfl) (by intro w _; go_simp; with_reducible rfl) ?_
            try simp only [Act.put, List.setIfInBounds_toArray, List.set_cons_zero, List.set_cons_succ]
            refine q_take _ (by rfl) (by intro w _; go_simp; with_reducible rfl) ?_
            try simp only [Act.put, List.setIfInBounds_toArray, List.set_cons_zero, List.set_cons_succ]
            refine q_take _ (by rfl) (fun x hx => run_load_in 22 (.tmp 10) rfl (g2) rfl (byteCells (one) 32).toArray 32 (by rw [List.size_toArray, byteCells_length]) ((Q2.out).below hx (Q2.out).lt) rfl rfl (by kernel_rfl)) ?_
            try simp only [Act.put, List.setIfInBounds_toArray, List.set_cons_zero, List.set_cons_succ]
            refine q_take _ (by rfl) (by intro w _; go_simp; with_reducible rfl) ?_
            try simp only [Act.put, List.setIfInBounds_toArray, List.set_cons_zero, List.set_cons_succ]
            refine q_call (.agg (byteCells S2 16).toArray) 16 (#[.agg (byteCells one 32).toArray, .slice A7 (16 * j) c7]) (by rfl) (by intro w; go_simp; try with_reducible rfl) (fun x hx => (C2.out x (P7.out.below hx (Nat.le_refl _))).mono fun e w' ⟨he, hb⟩ => ⟨he, below_trans hx hb⟩) ?_
            try simp only [Act.put, List.setIfInBounds_toArray, List.set_cons_zero, List.set_cons_succ]
            refine q_take _ (by rfl) (fun x hx => run_load_in 22 (.tmp 10) rfl (g2) rfl (byteCells (one) 32).toArray 32 (by rw [List.size_toArray, byteCells_length]) ((Q2.out).below hx (Q2.out).lt) rfl rfl (by kernel_rfl)) ?_
            try simp only [Act.put, List.setIfInBounds_toArray, List.set_cons_zero, List.set_cons_succ]
            refine q_take _ (by rfl) (by intro w _; go_simp; with_reducible rfl) ?_
            try simp only [Act.put, List.setIfInBounds_toArray, List.set_cons_zero, List.set_cons_succ]
            refine q_call (.agg (byteCells S2 16).toArray) 16 (#[.agg (byteCells one 32).toArray, .slice A8 (16 * j) c8]) (by rfl) (by intro w; go_simp; try with_reducible rfl) (fun x hx => (C3.out x (P8.out.below hx (Nat.le_refl _))).mono fun e w' ⟨he, hb⟩ => ⟨he, below_trans hx hb⟩) ?_
            try simp only [Act.put, List.setIfInBounds_toArray, List.set_cons_zero, List.set_cons_succ]
            refine q_take _ (by rfl) (by intro w _; go_simp; simp only [E2.out, Result.andThen_ok]; with_reducible rfl) ?_
            try simp only [Act.put, List.setIfInBounds_toArray, List.set_cons_zero, List.set_cons_succ]
            refine q_take _ (by rfl) (by intro w _; go_simp; with_reducible rfl) ?_
            try simp only [Act.put, List.setIfInBounds_toArray, List.set_cons_zero, List.set_cons_succ]
            refine q_take _ (by rfl) (by intro w _; go_simp; with_reducible rfl) ?_
            try simp only [Act.put, List.setIfInBounds_toArray, List.set_cons_zero, List.set_cons_succ]
            refine wpQuiet_nil ?_
            intro w9 hb9
            have HB9 := Lib.hid (QB'.out.trans (hb9.mono (by omega)))
            clear hb9
            go_wp2_with fail
            go_ret
            exact ⟨rfl, by rw [hB]; exact HB9.out⟩

theorem walk (a0 : Option Addr) (len0 cap0 : Nat) (z0 : List Int) (a1 : Option Addr) (len1 cap1 : Nat) (F : Nat → Nat → Nat) (w : World) (w0 : IsRow .u8 w a0 len0 cap0 z0) (w1 : Arr.IsArrs w a1 len1 cap1 16 F) :
    Calls Try.prog 7 #[.slice a0 len0 cap0, .slice a1 len1 cap1] w fun e w' => e = .returned (.bool true) ∧ Below w.heap.size w w' := by
  obtain ⟨f, hf, hr, hcap, hm⟩ := rd_of_row w0
  by_cases h1 : 15 < len0
  · exact bigB a0 len0 cap0 a1 len1 cap1 h1 w
  · by_cases h2 : 50 < len1
    · exact bigP a0 len0 cap0 a1 len1 cap1 (by omega) h2 w
    · exact fits w a0 len0 cap0 f hf hcap a1 len1 cap1 F w1 hr (by omega) (by omega)

end PolyOne
end Go.Proofs.Ytdffbjlbhjppeaa
