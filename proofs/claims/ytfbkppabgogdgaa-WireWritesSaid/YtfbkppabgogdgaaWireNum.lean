/- Numbers and their bytes, over the kit: what wire needs of the texts of layer 1. -/
import Derived.Test.YtfbkppabgogdgaaKit
namespace Go.Proofs.Ytfbkppabgogdgaa
namespace Words
open Go.ChangeShapes Go.WideShapes Go.ChangeAt Go.RowKit
open Num Mem

set_option maxRecDepth 100000 in
theorem little_ok (b off n c : Nat) (f : Nat → Nat) (hf : ∀ i, f i < 256) (p size : Nat) (h0 : 1 ≤ size) (h1 : size ≤ 8) (h : p + size ≤ n) (hn : n ≤ 9223372036854775807) (w : World)
    (hc : ∀ i, i < n → w.cell? ⟨b, off + i, none⟩ = some (.int .u8 (f i))) :
    Calls Try.prog 79 #[.slice (some ⟨b, off, none⟩) n c, .int .i64 p, .int .i64 size] w fun e w' => e = .returned (.tuple #[.int .u64 (le f p size), .int .i64 0]) ∧ w = w' := by
  have HC := Lib.hid hc
  clear hc
  have HF := Lib.hid hf
  clear hf
  go_enter Try.func79, Try.ntmps79
  go_wp2_with (go_at_call 95; refine (lacks_any _ _ _ _ _ (by omega) (by omega) (by omega) _).mono ?_; rintro e w' ⟨rfl, rfl⟩; rw [lackI_ok (by omega) (by omega)])
  go_loop [9, 10, 19] (fun v _ i => ∃ k : Nat, k ≤ size ∧ i = .int .i64 k ∧ v = .int .u64 (le f p k)) (fun _ _ i => size - (intOf i).toNat)
  case atStart => exact ⟨0, Nat.zero_le _, rfl, rfl⟩
  case round =>
    obtain ⟨k, hk, rfl, rfl⟩ := hrel
    by_cases hlt : k < size
    · have hcell := HC.out (p + k) (by omega)
      go_wp2
      go_round
      case rel => exact ⟨k + 1, by omega, by go_num, by rw [or_low _ _ k (by omega) (le_lt HF.out p k) (HF.out _)]; rfl⟩
      case measure => simp [intOf]; omega
    · go_wp2
      go_ret2
      exact ⟨by rw [show k = size from by omega]; rfl, rfl⟩

set_option maxRecDepth 100000 in
theorem little_no (A : Option Addr) (n c : Nat) (p : Int) (size : Nat) (h0 : 1 ≤ size) (h1 : size ≤ 8) (hn : n ≤ 9223372036854775807) (h : p < 0 ∨ (n : Int) - size < p) (w : World) :
    Calls Try.prog 79 #[.slice A n c, .int .i64 p, .int .i64 size] w fun e w' => e = .returned (.tuple #[.int .u64 0, .int .i64 (wrongI p)]) ∧ w = w' := by
  by_cases hp : p < 0
  · go_enter Try.func79, Try.ntmps79
    go_wp2_with (go_at_call 95; refine (lacks_any _ _ _ _ _ (by omega) (by omega) (by omega) _).mono ?_; rintro e w' ⟨rfl, rfl⟩; rw [lackI_neg hp])
    go_ret2
    exact ⟨by rw [show wrongI p = 1 from if_pos hp]; rfl, rfl⟩
  · have hp' : 0 ≤ p := by omega
    have hq : (n : Int) - size < p := by omega
    clear hp h
    go_enter Try.func79, Try.ntmps79
    go_wp2_with (go_at_call 95; refine (lacks_any _ _ _ _ _ (by omega) (by omega) (by omega) _).mono ?_; rintro e w' ⟨rfl, rfl⟩; rw [lackI_far hp' hq])
    go_ret2
    exact ⟨by rw [show wrongI p = 10 from if_neg (by omega)]; rfl, rfl⟩

set_option maxRecDepth 100000 in
theorem load32_ok (b off n c : Nat) (f : Nat → Nat) (hf : ∀ i, f i < 256) (p : Nat) (h : p + 4 ≤ n) (hn : n ≤ 9223372036854775807) (w : World)
    (hc : ∀ i, i < n → w.cell? ⟨b, off + i, none⟩ = some (.int .u8 (f i))) :
    Calls Try.prog 57 #[.slice (some ⟨b, off, none⟩) n c, .int .i64 p] w fun e w' => e = .returned (.tuple #[.int .u32 (le f p 4), .int .i64 0]) ∧ w = w' := by
  have HC := Lib.hid hc
  clear hc
  have HF := Lib.hid hf
  clear hf
  have hl : le f p 4 < 4294967296 := le_lt HF.out p 4
  go_enter Try.func57, Try.ntmps57
  go_wp2_with (go_at_call 79; refine (little_ok b off n c f HF.out p 4 (by omega) (by omega) h hn _ HC.out).mono ?_; rintro e w' ⟨rfl, rfl⟩)
  go_ret2
  exact ⟨rfl, rfl⟩

set_option maxRecDepth 100000 in
theorem load32_no (A : Option Addr) (n c : Nat) (p : Int) (hn : n ≤ 9223372036854775807) (h : p < 0 ∨ (n : Int) - 4 < p) (w : World) :
    Calls Try.prog 57 #[.slice A n c, .int .i64 p] w fun e w' => e = .returned (.tuple #[.int .u32 0, .int .i64 (wrongI p)]) ∧ w = w' := by
  go_enter Try.func57, Try.ntmps57
  go_wp2_with (go_at_call 79; refine (little_no A n c p 4 (by omega) (by omega) hn h _).mono ?_; rintro e w' ⟨rfl, rfl⟩)
  go_ret2
  exact ⟨rfl, rfl⟩

set_option maxRecDepth 100000 in
theorem load64_ok (b off n c : Nat) (f : Nat → Nat) (hf : ∀ i, f i < 256) (p : Nat) (h : p + 8 ≤ n) (hn : n ≤ 9223372036854775807) (w : World)
    (hc : ∀ i, i < n → w.cell? ⟨b, off + i, none⟩ = some (.int .u8 (f i))) :
    Calls Try.prog 80 #[.slice (some ⟨b, off, none⟩) n c, .int .i64 p] w fun e w' => e = .returned (.tuple #[.int .u64 (le f p 8), .int .i64 0]) ∧ w = w' := by
  have HC := Lib.hid hc
  clear hc
  have HF := Lib.hid hf
  clear hf
  go_enter Try.func80, Try.ntmps80
  go_wp2_with (go_at_call 79; refine (little_ok b off n c f HF.out p 8 (by omega) (by omega) h hn _ HC.out).mono ?_; rintro e w' ⟨rfl, rfl⟩)
  go_ret2
  exact ⟨rfl, rfl⟩

set_option maxRecDepth 100000 in
theorem load64_no (A : Option Addr) (n c : Nat) (p : Int) (hn : n ≤ 9223372036854775807) (h : p < 0 ∨ (n : Int) - 8 < p) (w : World) :
    Calls Try.prog 80 #[.slice A n c, .int .i64 p] w fun e w' => e = .returned (.tuple #[.int .u64 0, .int .i64 (wrongI p)]) ∧ w = w' := by
  go_enter Try.func80, Try.ntmps80
  go_wp2_with (go_at_call 79; refine (little_no A n c p 8 (by omega) (by omega) hn h _).mono ?_; rintro e w' ⟨rfl, rfl⟩)
  go_ret2
  exact ⟨rfl, rfl⟩

set_option maxRecDepth 100000 in
theorem put32_lit (v : Nat) (hv : v < 4294967296) (w : World) :
    Calls Try.prog 53 #[.int .u32 v] w fun e w' => e = .returned (.agg #[.int .u8 ((v : Int) % 256), .int .u8 ((v : Int) / 256 % 256), .int .u8 ((v : Int) / 65536 % 256), .int .u8 ((v : Int) / 16777216)]) ∧ Below w.heap.size w w' := by
  go_enter Try.func53, Try.ntmps53
  go_wp2
  refine wp_loop_rounds 5 ?_
  rw [rounds_succ]; go_wp2
  rw [rounds_succ]; go_wp2
  rw [rounds_succ]; go_wp2
  rw [rounds_succ]; go_wp2
  rw [rounds_succ]; go_wp2
  refine bodyPost_ret (v := .agg #[.int .u8 ((v : Int) % 256), .int .u8 ((v : Int) / 256 % 256), .int .u8 ((v : Int) / 65536 % 256), .int .u8 ((v : Int) / 16777216)]) ?_ rfl ⟨rfl, ?_⟩
  · simp [results, Try.results53, go_sem]
  · exact ((Below.refl _ _).alloc (Nat.le_refl _) _).alloc (by simp) _

set_option maxRecDepth 100000 in
theorem put64_lit (v : Nat) (hv : v < 18446744073709551616) (w : World) :
    Calls Try.prog 54 #[.int .u64 v] w fun e w' => e = .returned (.agg #[.int .u8 ((v : Int) % 256), .int .u8 ((v : Int) / 256 % 256), .int .u8 ((v : Int) / 65536 % 256), .int .u8 ((v : Int) / 16777216 % 256),
      .int .u8 ((v : Int) / 4294967296 % 256), .int .u8 ((v : Int) / 1099511627776 % 256), .int .u8 ((v : Int) / 281474976710656 % 256), .int .u8 ((v : Int) / 72057594037927936)]) ∧ Below w.heap.size w w' := by
  go_enter Try.func54, Try.ntmps54
  go_wp2
  refine wp_loop_rounds 9 ?_
  rw [rounds_succ]; go_wp2
  rw [rounds_succ]; go_wp2
  rw [rounds_succ]; go_wp2
  rw [rounds_succ]; go_wp2
  rw [rounds_succ]; go_wp2
  rw [rounds_succ]; go_wp2
  rw [rounds_succ]; go_wp2
  rw [rounds_succ]; go_wp2
  rw [rounds_succ]; go_wp2
  refine bodyPost_ret (v := .agg #[.int .u8 ((v : Int) % 256), .int .u8 ((v : Int) / 256 % 256), .int .u8 ((v : Int) / 65536 % 256), .int .u8 ((v : Int) / 16777216 % 256),
      .int .u8 ((v : Int) / 4294967296 % 256), .int .u8 ((v : Int) / 1099511627776 % 256), .int .u8 ((v : Int) / 281474976710656 % 256), .int .u8 ((v : Int) / 72057594037927936)]) ?_ rfl ⟨rfl, ?_⟩
  · simp [results, Try.results54, go_sem]
  · exact ((Below.refl _ _).alloc (Nat.le_refl _) _).alloc (by simp) _

/-- Put32: the four bytes -/
theorem put32_any (v : Nat) (hv : v < 4294967296) (w : World) :
    Calls Try.prog 53 #[.int .u32 v] w fun e w' => e = .returned (.agg (byteCells (byteAt v) 4).toArray) ∧ Below w.heap.size w w' := by
  have h := put32_lit v hv w
  rw [bytes4 v hv] at h
  exact h

/-- Put64: the eight bytes -/
theorem put64_any (v : Nat) (hv : v < 18446744073709551616) (w : World) :
    Calls Try.prog 54 #[.int .u64 v] w fun e w' => e = .returned (.agg (byteCells (byteAt v) 8).toArray) ∧ Below w.heap.size w w' := by
  have h := put64_lit v hv w
  rw [bytes8 v hv] at h
  exact h

/-- what a call answers of a number that is read: the number, or what is wrong -/
def numI (good : Prop) [Decidable good] (x : Nat) : Int := if good then x else 0

def errI (good : Prop) [Decidable good] (p : Int) : Int := if good then 0 else wrongI p

/-- size bytes from p on lie within n -/
def fitsI (n : Nat) (p : Int) (size : Nat) : Bool := decide (0 ≤ p ∧ p ≤ n - size)

theorem load32_all (A : Option Addr) (n c : Nat) (f : Nat → Nat) (hf : ∀ i, f i < 256) (p : Int) (hn : n ≤ 9223372036854775807) (w : World) (hr : Rd w A n f) :
    Calls Try.prog 57 #[.slice A n c, .int .i64 p] w fun e w' => e = .returned (.tuple #[.int .u32 (numI (fitsI n p 4 = true) (le f p.toNat 4)), .int .i64 (errI (fitsI n p 4 = true) p)]) ∧ w = w' := by
  by_cases h : fitsI n p 4 = true
  · rw [numI, errI, if_pos h, if_pos h]
    simp only [fitsI, decide_eq_true_eq] at h
    obtain ⟨q, rfl⟩ : ∃ q : Nat, p = (q : Int) := ⟨p.toNat, by omega⟩
    rcases hr with h0 | ⟨b, off, rfl, hb, hc⟩
    · omega
    · exact load32_ok b off n c f hf q (by omega) hn w hc
  · rw [numI, errI, if_neg h, if_neg h]
    simp only [fitsI, decide_eq_true_eq] at h
    exact load32_no A n c p hn (by omega) w

theorem load64_all (A : Option Addr) (n c : Nat) (f : Nat → Nat) (hf : ∀ i, f i < 256) (p : Int) (hn : n ≤ 9223372036854775807) (w : World) (hr : Rd w A n f) :
    Calls Try.prog 80 #[.slice A n c, .int .i64 p] w fun e w' => e = .returned (.tuple #[.int .u64 (numI (fitsI n p 8 = true) (le f p.toNat 8)), .int .i64 (errI (fitsI n p 8 = true) p)]) ∧ w = w' := by
  by_cases h : fitsI n p 8 = true
  · rw [numI, errI, if_pos h, if_pos h]
    simp only [fitsI, decide_eq_true_eq] at h
    obtain ⟨q, rfl⟩ : ∃ q : Nat, p = (q : Int) := ⟨p.toNat, by omega⟩
    rcases hr with h0 | ⟨b, off, rfl, hb, hc⟩
    · omega
    · exact load64_ok b off n c f hf q (by omega) hn w hc
  · rw [numI, errI, if_neg h, if_neg h]
    simp only [fitsI, decide_eq_true_eq] at h
    exact load64_no A n c p hn (by omega) w

end Words
namespace Ref
open Go.ChangeShapes Go.WideShapes Go.ChangeAt Go.RowKit
open Num Mem Words

theorem info_u8 : (Try.prog.info? 5).map (fun i => (i.zero, i.size, i.bytes)) = some (some (.int .u8 0), 1, 1) := by kernel_rfl

theorem one_at (w : World) (u : Value) (t : TypeId) : ∀ j x, [u][j]? = some x → (w.alloc (.cells #[u] t)).cell? ((⟨w.heap.size, 0, none⟩ : Addr).add j) = some x := by
  intro j x hj
  match j, hj with
  | 0, hj =>
    simp at hj
    subst hj
    exact (Whole.new w t #[u]).cell 0

/-- 'append(out, x)' of one byte onto a row of the call's own -/
theorem wpList_push {ops : Array Oper} {rest : List Oper} {o : Oper} {a : Act} {Q : Exit → Act → World → Prop} {W w : World} {B k c : Nat} {A : Option Addr} {f : Nat → Nat} {b : Int} (hgd : o.guard = none) (s x : Operand)
    (ho : o.op = .call { callee := .builtin .append, args := #[s, x], argTypes := #[36, 36] })
    (hs : a.eval s = .slice A k c) (hx : a.eval x = .slice (some ⟨w.heap.size, 0, none⟩) 1 1)
    (own : Own w B 5 A k c f) (bel : Below B W w) (hB : B ≤ w.heap.size) (hb : b = (f k : Nat)) (hk : k < 1000000)
    (h : ∀ A' c' w', Own w' B 5 A' (k + 1) c' f → Below B W w' → B ≤ w'.heap.size → wpList Try.prog ops Q rest (a.put o.dst (.slice A' (k + 1) c')) w') :
    wpList Try.prog ops Q (o :: rest) a (w.alloc (.cells #[.int .u8 b] 5)) := by
  obtain ⟨i0, hi, hz0, hz1, hz2⟩ := info_parts info_u8
  refine wpList_append_own _ hgd s x 36 ho B 5 i0 (.int .u8 0) 1 1 Try.underlying36 hi hz0 hz1 hz2 rfl (by decide) (.slice A k c) k (byteCells f k) hs (World.ownsRow.alloc own _) ⟨w.heap.size, 0, none⟩ 1 1 [.int .u8 b] hx rfl (one_at _ _ _)
    (by intro u hu; simp at hu; subst hu; rfl) (by simp only [maxLen]; omega) (by omega) (by simp; omega) ?_
  intro v' w' h1 h2 _
  obtain ⟨A', c', rfl, hown'⟩ := Own.of_append (f := f) h1 (by rw [byteCells_snoc, hb])
  exact h A' c' w' hown' (own.keeps bel _ h2 hB) (Nat.le_trans (by simp; omega) h2.size)

set_option maxRecDepth 100000 in
theorem bytes_any (v s : Nat) (hs : s ≤ 8) (hv : v < 18446744073709551616) (w : World) :
    Calls Try.prog 16 #[.int .u64 v, .int .i64 s] w fun e w' => ∃ A c, e = .returned (.slice A s c) ∧ Own w' w.heap.size 5 A s c (byteAt v) ∧ Below w.heap.size w w' := by
  go_enter Try.func16, Try.ntmps16
  go_wp2
  go_loopw [0, 5, 6] (fun x o i wr => ∃ (k : Nat) (A : Option Addr) (c : Nat), k ≤ s ∧ i = .int .i64 k ∧ x = .int .u64 (v / 2 ^ (8 * k) : Nat) ∧ o = .slice A k c ∧ Own wr w.heap.size 5 A k c (byteAt v) ∧ Below w.heap.size w wr) (fun _ _ i _ => s - (intOf i).toNat)
  case atStart => exact ⟨0, none, 0, Nat.zero_le _, rfl, by simp, rfl, Own.nil _ _ _ _, Below.refl _ _⟩
  case round =>
    obtain ⟨k, A, c, hk, rfl, rfl, rfl, hown, hbel⟩ := hrel
    by_cases hlt : k < s
    · generalize hq : v / 2 ^ (8 * k) = q
      have hqv : q ≤ v := by rw [← hq]; exact Nat.div_le_self _ _
      have hbv : (q : Int) % 256 = (byteAt v k : Nat) := by unfold byteAt; rw [hq]; omega
      have hq1 : ((q : Int) / 256) = (v / 2 ^ (8 * (k + 1)) : Nat) := by rw [pow8_succ, Nat.mul_comm, ← Nat.div_div_eq_div_mul, hq]; omega
      have HQ := Lib.hid hq1
      have HV := Lib.hid hbv
      have HO := Lib.hid hown
      have HL := Lib.hid hbel
      have hsz := hbel.size
      clear hown hbel hq hbv hq1
      go_wp2_with (first
        | (at_builtin; refine wpList_push rfl _ _ rfl rfl rfl HO.out HL.out hsz HV.out (by omega) ?_; intro A' c' w1 hown1 hbel1 hsz1; have HO1 := Lib.hid hown1; have HL1 := Lib.hid hbel1; clear hown1 hbel1))
      go_roundw
      case rel => exact ⟨k + 1, A', c', by omega, by go_num, by rw [HQ.out], rfl, HO1.out, HL1.out⟩
      case measure => simp [intOf]; omega
    · obtain rfl : k = s := by omega
      have HO := Lib.hid hown
      have HL := Lib.hid hbel
      clear hown hbel
      go_wp2
      go_ret
      exact ⟨A, c, rfl, HO.out, HL.out⟩

set_option maxRecDepth 100000 in
theorem least_any (A : Option Addr) (n c : Nat) (f : Nat → Nat) (hf : ∀ i, f i < 256) (hn : n ≤ 8) (w : World) (hr : Rd w A n f) :
    Calls Try.prog 64 #[.slice A n c] w fun e w' => e = .returned (.int .u64 (le f 0 n)) ∧ w = w' := by
  have HR := Lib.hid hr
  clear hr
  have HF := Lib.hid hf
  clear hf
  go_enter Try.func64, Try.ntmps64
  go_wp2
  go_loop [3, 4] (fun v i => ∃ k : Nat, k ≤ n ∧ i = .int .i64 ((k : Int) - 1) ∧ v = .int .u64 (le f k (n - k))) (fun _ i => (intOf i + 1).toNat)
  case atStart => exact ⟨n, Nat.le_refl _, rfl, by rw [Nat.sub_self]; rfl⟩
  case round =>
    obtain ⟨k, hk, rfl, rfl⟩ := hrel
    by_cases hlt : 0 < k
    · obtain ⟨j, rfl⟩ : ∃ j, k = j + 1 := ⟨k - 1, by omega⟩
      rcases HR.out with h0 | ⟨b, off, rfl, hb, hc⟩
      · omega
      have hcell := hc j (by omega)
      have hj : (((j + 1 : Nat) : Int) - 1) = (j : Int) := by omega
      rw [hj]
      have hl := le_lt HF.out (j + 1) (n - (j + 1))
      have hp := pow8_le (k := n - (j + 1)) (by omega)
      have hfj := HF.out j
      have hl2 : (le f (j + 1) (n - (j + 1)) : Int) < 72057594037927936 := by omega
      have HE := Lib.hid (le_front f j (n - (j + 1)))
      have HC := Lib.hid hc
      clear hc hj hp hl
      go_wp2
      go_round
      case rel => exact ⟨j, by omega, rfl, by rw [show n - j = n - (j + 1) + 1 from by omega, HE.out, Int.natCast_add, Int.natCast_mul]; rfl⟩
      case measure => simp [intOf]
    · obtain rfl : k = 0 := by omega
      go_wp2
      go_ret
      exact ⟨rfl, rfl⟩

end Ref
end Go.Proofs.Ytfbkppabgogdgaa
