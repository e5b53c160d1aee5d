/- The document's own answers of layer 1 (package aditref01) at any arguments, each by what it answers. -/
import Derived.Test.YtcoppcididemkaaDoorWordsHex
import Derived.Test.YtcoppcididemkaaDoorOwn
namespace Go.Proofs.YtcoppcididemkaaDoor
namespace Ref
open Go.ChangeShapes Go.WideShapes Go.ChangeAt Go.RowKit
open Num Mem Words

theorem info_u8 : (Tryd.prog.info? 5).map (fun i => (i.zero, i.size, i.bytes)) = some (some (.int .u8 0), 1, 1) := by kernel_rfl

theorem one_at (w : World) (u : Value) (t : TypeId) : ∀ j x, [u][j]? = some x → (w.alloc (.cells #[u] t)).cell? ((⟨w.heap.size, 0, none⟩ : Addr).add j) = some x := by
  intro j x hj
  match j, hj with
  | 0, hj =>
    simp at hj
    subst hj
    exact (Whole.new w t #[u]).cell 0

/-- 'append(out, x)' of one byte onto a row of the call's own -/
theorem wpList_push {ops : Array Oper} {rest : List Oper} {o : Oper} {a : Act} {Q : Exit → Act → World → Prop} {W w : World} {B k c : Nat} {A : Option Addr} {f : Nat → Nat} {b : Int} (hgd : o.guard = none) (s x : Operand)
    (ho : o.op = .call { callee := .builtin .append, args := #[s, x], argTypes := #[22, 22] })
    (hs : a.eval s = .slice A k c) (hx : a.eval x = .slice (some ⟨w.heap.size, 0, none⟩) 1 1)
    (own : Own w B 5 A k c f) (bel : Below B W w) (hB : B ≤ w.heap.size) (hb : b = (f k : Nat)) (hk : k < 1000000)
    (h : ∀ A' c' w', Own w' B 5 A' (k + 1) c' f → Below B W w' → B ≤ w'.heap.size → wpList Tryd.prog ops Q rest (a.put o.dst (.slice A' (k + 1) c')) w') :
    wpList Tryd.prog ops Q (o :: rest) a (w.alloc (.cells #[.int .u8 b] 5)) := by
  obtain ⟨i0, hi, hz0, hz1, hz2⟩ := info_parts info_u8
  refine wpList_append_own _ hgd s x 22 ho B 5 i0 (.int .u8 0) 1 1 Tryd.underlying22 hi hz0 hz1 hz2 rfl (by decide) (.slice A k c) k (byteCells f k) hs (World.ownsRow.alloc own _) ⟨w.heap.size, 0, none⟩ 1 1 [.int .u8 b] hx rfl (one_at _ _ _)
    (by intro u hu; simp at hu; subst hu; rfl) (by simp only [maxLen]; omega) (by omega) (by simp; omega) ?_
  intro v' w' h1 h2 _
  obtain ⟨A', c', rfl, hown'⟩ := Own.of_append (f := f) h1 (by rw [byteCells_snoc, hb])
  exact h A' c' w' hown' (own.keeps bel _ h2 hB) (Nat.le_trans (by simp; omega) h2.size)

set_option maxRecDepth 100000 in
theorem bytes_any (v s : Nat) (hs : s ≤ 8) (hv : v < 18446744073709551616) (w : World) :
    Calls Tryd.prog 15 #[.int .u64 v, .int .i64 s] w fun e w' => ∃ A c, e = .returned (.slice A s c) ∧ Own w' w.heap.size 5 A s c (byteAt v) ∧ Below w.heap.size w w' := by
  go_enter Tryd.func15, Tryd.ntmps15
  go_wp2
  go_loopw [0, 5, 6] (fun x o i wr => ∃ (k : Nat) (A : Option Addr) (c : Nat), k ≤ s ∧ i = .int .i64 k ∧ x = .int .u64 (v / 2 ^ (8 * k) : Nat) ∧ o = .slice A k c ∧ Own wr w.heap.size 5 A k c (byteAt v) ∧ Below w.heap.size w wr) (fun _ _ i _ => s - (intOf i).toNat)
  case atStart => exact ⟨0, none, 0, Nat.zero_le _, rfl, by simp, rfl, Own.nil _ _ _ _, Below.refl _ _⟩
  case round =>
    obtain ⟨k, A, c, hk, rfl, rfl, rfl, hown, hbel⟩ := hrel
    by_cases hlt : k < s
    · generalize hq : v / 2 ^ (8 * k) = q
      have hqv : q ≤ v := by rw [← hq]; exact Nat.div_le_self _ _
      have hbv : (q : Int) % 256 = (byteAt v k : Nat) := by unfold byteAt; rw [hq]; omega
      have hq1 : ((q : Int) / 256) = (v / 2 ^ (8 * (k + 1)) : Nat) := by rw [pow8_succ, Nat.mul_comm, ← Nat.div_div_eq_div_mul, hq]; omega
      have HQ := Lib.hid hq1
      have HV := Lib.hid hbv
      have HO := Lib.hid hown
      have HL := Lib.hid hbel
      have hsz := hbel.size
      clear hown hbel hq hbv hq1
      go_wp2_with (first
        | (at_builtin; refine wpList_push rfl _ _ rfl rfl rfl HO.out HL.out hsz HV.out (by omega) ?_; intro A' c' w1 hown1 hbel1 hsz1; have HO1 := Lib.hid hown1; have HL1 := Lib.hid hbel1; clear hown1 hbel1))
      go_roundw
      case rel => exact ⟨k + 1, A', c', by omega, by go_num, by rw [HQ.out], rfl, HO1.out, HL1.out⟩
      case measure => simp [intOf]; omega
    · obtain rfl : k = s := by omega
      have HO := Lib.hid hown
      have HL := Lib.hid hbel
      clear hown hbel
      go_wp2
      go_ret
      exact ⟨A, c, rfl, HO.out, HL.out⟩

set_option maxRecDepth 100000 in
theorem least_any (A : Option Addr) (n c : Nat) (f : Nat → Nat) (hf : ∀ i, f i < 256) (hn : n ≤ 8) (w : World) (hr : Rd w A n f) :
    Calls Tryd.prog 19 #[.slice A n c] w fun e w' => e = .returned (.int .u64 (le f 0 n)) ∧ w = w' := by
  have HR := Lib.hid hr
  clear hr
  have HF := Lib.hid hf
  clear hf
  go_enter Tryd.func19, Tryd.ntmps19
  go_wp2
  go_loop [3, 4] (fun v i => ∃ k : Nat, k ≤ n ∧ i = .int .i64 ((k : Int) - 1) ∧ v = .int .u64 (le f k (n - k))) (fun _ i => (intOf i + 1).toNat)
  case atStart => exact ⟨n, Nat.le_refl _, rfl, by rw [Nat.sub_self]; rfl⟩
  case round =>
    obtain ⟨k, hk, rfl, rfl⟩ := hrel
    by_cases hlt : 0 < k
    · obtain ⟨j, rfl⟩ : ∃ j, k = j + 1 := ⟨k - 1, by omega⟩
      rcases HR.out with h0 | ⟨b, off, rfl, hb, hc⟩
      · omega
      have hcell := hc j (by omega)
      have hj : (((j + 1 : Nat) : Int) - 1) = (j : Int) := by omega
      rw [hj]
      have hl := le_lt HF.out (j + 1) (n - (j + 1))
      have hp := pow8_le (k := n - (j + 1)) (by omega)
      have hfj := HF.out j
      have hl2 : (le f (j + 1) (n - (j + 1)) : Int) < 72057594037927936 := by omega
      have HE := Lib.hid (le_front f j (n - (j + 1)))
      have HC := Lib.hid hc
      clear hc hj hp hl
      go_wp2
      go_round
      case rel => exact ⟨j, by omega, rfl, by rw [show n - j = n - (j + 1) + 1 from by omega, HE.out, Int.natCast_add, Int.natCast_mul]; rfl⟩
      case measure => simp [intOf]
    · obtain rfl : k = 0 := by omega
      go_wp2
      go_ret
      exact ⟨rfl, rfl⟩

theorem tmod32 (n : Int) : n.tmod 32 = n % 32 ∨ (n.tmod 32 = n % 32 - 32 ∧ 0 < n % 32) := by
  rw [Int.tmod_eq_emod]
  split
  · exact .inl (by omega)
  · rename_i h
    right
    have h1 : ¬ (32 : Int) ∣ n := fun hd => h (.inr hd)
    exact ⟨by omega, by omega⟩

theorem rotl_step (v k : Nat) (hv : v < 2 ^ 32) (hk : k ≤ 30) : rotl v (k + 1) = rotl v k * 2 % 4294967296 + rotl v k / 2147483648 := by
  rw [← rotl_rotl v k 1 (k + 1) hv (by omega) (by omega) (by omega), rotl_one _ (rotl_lt v k hv (by omega))]

set_option maxRecDepth 100000 in
theorem rotate_ref (v u : Nat) (n : Int) (hu : n % 32 = (u : Int)) (hv : v < 2 ^ 32) (w : World) :
    Calls Tryd.prog 28 #[.int .u32 v, .int .i64 n] w fun e w' => e = .returned (.int .u32 (rotl v u : Nat)) ∧ w = w' := by
  have hu2 : u ≤ 31 := by omega
  have HV := Lib.hid hv
  rcases tmod32 n with h | ⟨h, hp⟩
  · rw [hu] at h
    clear hu
    have hd : decide ((u : Int) < 0) = false := decide_eq_false (by omega)
    go_enter Tryd.func28, Tryd.ntmps28
    go_wp2
    clear h hd
    go_loop [0, 5, 6] (fun x i _ => ∃ k : Nat, k ≤ u ∧ i = .int .i64 k ∧ x = .int .u32 (rotl v k : Nat)) (fun _ i _ => u - (intOf i).toNat)
    case atStart => exact ⟨0, Nat.zero_le _, rfl, by rw [rotl_zero v HV.out]⟩
    case round =>
      obtain ⟨k, hk, rfl, rfl⟩ := hrel
      by_cases hlt : k < u
      · have hb : rotl v k < 4294967296 := rotl_lt v k HV.out (by omega)
        have HE := Lib.hid (rotl_step v k HV.out (by omega))
        go_wp2
        go_round
        case rel => exact ⟨k + 1, by omega, by go_num, by rw [HE.out]; go_num⟩
        case measure => simp [intOf]; omega
      · obtain rfl : k = u := by omega
        go_wp2
        go_ret
        exact ⟨rfl, rfl⟩
  · rw [hu] at h hp
    clear hu
    have hd : decide ((u : Int) - 32 < 0) = true := decide_eq_true (by omega)
    go_enter Tryd.func28, Tryd.ntmps28
    go_wp2
    clear h hd
    go_loop [0, 5, 6] (fun x i _ => ∃ k : Nat, k ≤ u ∧ i = .int .i64 k ∧ x = .int .u32 (rotl v k : Nat)) (fun _ i _ => u - (intOf i).toNat)
    case atStart => exact ⟨0, Nat.zero_le _, rfl, by rw [rotl_zero v HV.out]⟩
    case round =>
      obtain ⟨k, hk, rfl, rfl⟩ := hrel
      by_cases hlt : k < u
      · have hb : rotl v k < 4294967296 := rotl_lt v k HV.out (by omega)
        have HE := Lib.hid (rotl_step v k HV.out (by omega))
        go_wp2
        go_round
        case rel => exact ⟨k + 1, by omega, by go_num, by rw [HE.out]; go_num⟩
        case measure => simp [intOf]; omega
      · obtain rfl : k = u := by omega
        go_wp2
        go_ret
        exact ⟨rfl, rfl⟩

end Ref
end Go.Proofs.YtcoppcididemkaaDoor
