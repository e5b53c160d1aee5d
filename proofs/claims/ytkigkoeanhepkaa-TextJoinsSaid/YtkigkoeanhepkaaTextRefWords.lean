/- The document's own Words, Same and Pair. -/
import Derived.Test.YtkigkoeanhepkaaTextWords
namespace Go.Proofs.Ytkigkoeanhepkaa
namespace Text
open Go.RowKit Go.Shelf

attribute [local go_sem] Oper.semAt_some

theorem owns_below {W w1 : World} {n₀ : Nat} {e : TypeId} {size : Nat} {v : Value} {k : Nat} {xs : List Value} {tmp : Obj}
    (hrow : W.ownsRow n₀ e size v k xs) (hn₀ : n₀ ≤ W.heap.size) (hgrow : (W.alloc tmp).grownBy w1 v.ownBlock) : Below n₀ W w1 := by
  refine ((Below.refl n₀ W).alloc hn₀ tmp).grown hgrow (by simp; omega) fun j ej => ?_
  rcases hrow.2 with ⟨rfl, _⟩ | ⟨g, cap, cur, rfl, hb, _, _⟩
  · simp [Value.ownBlock] at ej
  · obtain rfl : g = j := by simpa [Value.ownBlock] using ej
    exact hb

set_option maxRecDepth 100000 in
set_option maxHeartbeats 4000000 in
theorem refWords_in (F : Fence) (n : Nat) (h1 : F.fn 12) (hro : F.round = none) (s : ByteArray) (hs : s.size ≤ 65536)
    (hv : seenTo s s.size = true) (w : World) :
    CallsIn F n Try.prog 12 #[.string s] w fun e W' => ∃ v, e = .returned (.tuple #[v, .int .i64 0]) ∧ W'.ownsRow w.heap.size 9 1 v (wordsL s).length ((wordsL s).map Value.string) ∧ Below w.heap.size w W' := by
  obtain ⟨i0, hi, hz0, hz1, hz2⟩ := info_parts info9
  refine callsIn_of_wp Try.func12 rfl h1 ?_ hro
  simp only [Try.ntmps12, List.size_toArray, List.length_cons, List.length_nil, Nat.reduceAdd, Nat.reduceSub, Array.replicate_succ, Array.replicate_zero, List.push_toArray, List.append_toArray, List.nil_append, List.cons_append]
  have hL : (decide ((65536 : Int) < (s.size : Int))) = false := decide_eq_false (by omega)
  gi_wp2
  gi_loopw [4] (fun i wr => ∃ k : Nat, k ≤ s.size ∧ i = .int .i64 k ∧ wr = w)
    (fun i _ => s.size - (intOf i).toNat)
  case atStart => exact ⟨0, Nat.zero_le _, rfl, rfl⟩
  case round =>
    obtain ⟨k, hk, rfl, hw⟩ := hrel
    have hw' := hw.symm
    subst hw'
    clear hw
    by_cases hlt : k < s.size
    · have hN : (decide ((k : Int) < (s.size : Int))) = true := decide_eq_true (by omega)
      obtain ⟨hv1, hv2⟩ := seen_at hv hlt
      rw [← Mem.chr_get s k hlt] at hv1 hv2
      have hC1 : (decide (((s[k].toNat : Nat) : Int) < 32)) = false := decide_eq_false (by omega)
      have hC2 : (decide ((126 : Int) < ((s[k].toNat : Nat) : Int))) = false := decide_eq_false (by omega)
      gi_wp2
      refine ⟨⟨k + 1, by omega, rfl, trivial⟩, ?_⟩
      show s.size - ((k : Int) + 1).toNat < s.size - (k : Int).toNat
      omega
    · obtain rfl : k = s.size := by omega
      gi_wp2
      clear hk hlt
      gi_loopw [5, 6, 7] (fun v fr i W => ∃ k : Nat, k ≤ s.size + 1 ∧ i = .int .i64 k ∧ fr = .int .i64 ((wst s k).1 : Nat) ∧ W.ownsRow w.heap.size 9 1 v (wst s k).2.length ((wst s k).2.map Value.string) ∧ Below w.heap.size w W)
        (fun _ _ i _ => s.size + 1 - (intOf i).toNat)
      case atStart => exact ⟨0, Nat.zero_le _, rfl, rfl, World.ownsRow_nil _ _ _ _, Below.refl _ _⟩
      case round =>
        obtain ⟨k, hk, rfl, rfl, hrow, hB⟩ := hrel
        have hfr := wst_from s k
        have hlen := wst_len s k
        by_cases hlt : k < s.size + 1
        · have hN : (decide ((k : Int) ≤ (s.size : Int))) = true := decide_eq_true (by omega)
          have hA0 : (0 : Int) ≤ ((wst s k).1 : Int) := Int.natCast_nonneg _
          have hA1 : ((wst s k).1 : Int) ≤ (k : Int) := Int.ofNat_le.2 hfr
          have hA2 : (k : Int) ≤ (s.size : Int) := by omega
          have hA3 : (0 : Int) ≤ (k : Int) := Int.natCast_nonneg _
          have hM : (wst s k).2.length + 1 ≤ maxLen := by unfold maxLen; omega
          by_cases hin : k < s.size
          · have hI : (decide ((k : Int) < (s.size : Int))) = true := decide_eq_true (by omega)
            by_cases hb : s[k].toNat = 32
            · have hBq : (((s[k].toNat : Nat) : Int) != 32) = false := by rw [hb]; rfl
              have hns : solid s k = false := by
                unfold solid
                rw [← Mem.chr_get s k hin, hb]
                simp
              by_cases hf : (wst s k).1 < k
              · have hF : (decide (((wst s k).1 : Int) < (k : Int))) = true := decide_eq_true (by omega)
                gi_wp2_with (gi_at_builtin; refine wpListIn_append_own _ rfl _ _ 34 rfl w.heap.size 9 i0 (.string ⟨#[]⟩) 1 16 Try.underlying34 hi hz0 hz1 hz2 rfl (by decide) _ _ _ rfl (hrow.alloc _) ⟨wr.heap.size, 0, none⟩ 1 1 [.string (s.extract (wst s k).1 k)] rfl rfl (cell_one_new _ _ _) (by simp [Value.oneCell']) hM (by omega) (by have := hB.size; simp; omega) ?_; intro v' w1 hown' hgrow _; obtain ⟨g', cap', rfl⟩ := ownsRow_succ hown'; have hBn := hB.trans (owns_below hrow hB.size hgrow))
                refine ⟨⟨k + 1, by omega, rfl, by rw [wst_no s k hns]; rfl, by rw [wst_no s k hns, if_pos hf]; simpa using hown', hBn⟩, ?_⟩
                show s.size + 1 - ((k : Int) + 1).toNat < s.size + 1 - (k : Int).toNat
                omega
              · have hF : (decide (((wst s k).1 : Int) < (k : Int))) = false := decide_eq_false (by omega)
                gi_wp2
                refine ⟨⟨k + 1, by omega, rfl, by rw [wst_no s k hns]; rfl, by rw [wst_no s k hns, if_neg hf]; exact hrow, hB⟩, ?_⟩
                show s.size + 1 - ((k : Int) + 1).toNat < s.size + 1 - (k : Int).toNat
                omega
            · have hBq : (((s[k].toNat : Nat) : Int) != 32) = true := by rw [bne_iff_ne]; omega
              have hso : solid s k = true := by
                unfold solid
                rw [← Mem.chr_get s k hin]
                simp [hin, hb]
              gi_wp2
              refine ⟨⟨k + 1, by omega, rfl, by rw [wst_yes s k hso], by rw [wst_yes s k hso]; exact hrow, hB⟩, ?_⟩
              show s.size + 1 - ((k : Int) + 1).toNat < s.size + 1 - (k : Int).toNat
              omega
          · have hI : (decide ((k : Int) < (s.size : Int))) = false := decide_eq_false (by omega)
            have hns : solid s k = false := by
              unfold solid
              simp [hin]
            by_cases hf : (wst s k).1 < k
            · have hF : (decide (((wst s k).1 : Int) < (k : Int))) = true := decide_eq_true (by omega)
              gi_wp2_with (gi_at_builtin; refine wpListIn_append_own _ rfl _ _ 34 rfl w.heap.size 9 i0 (.string ⟨#[]⟩) 1 16 Try.underlying34 hi hz0 hz1 hz2 rfl (by decide) _ _ _ rfl (hrow.alloc _) ⟨wr.heap.size, 0, none⟩ 1 1 [.string (s.extract (wst s k).1 k)] rfl rfl (cell_one_new _ _ _) (by simp [Value.oneCell']) hM (by omega) (by have := hB.size; simp; omega) ?_; intro v' w1 hown' hgrow _; obtain ⟨g', cap', rfl⟩ := ownsRow_succ hown'; have hBn := hB.trans (owns_below hrow hB.size hgrow))
              refine ⟨⟨k + 1, by omega, rfl, by rw [wst_no s k hns]; rfl, by rw [wst_no s k hns, if_pos hf]; simpa using hown', hBn⟩, ?_⟩
              show s.size + 1 - ((k : Int) + 1).toNat < s.size + 1 - (k : Int).toNat
              omega
            · have hF : (decide (((wst s k).1 : Int) < (k : Int))) = false := decide_eq_false (by omega)
              gi_wp2
              refine ⟨⟨k + 1, by omega, rfl, by rw [wst_no s k hns]; rfl, by rw [wst_no s k hns, if_neg hf]; exact hrow, hB⟩, ?_⟩
              show s.size + 1 - ((k : Int) + 1).toNat < s.size + 1 - (k : Int).toNat
              omega
        · obtain rfl : k = s.size + 1 := by omega
          gi_wp2
          go_ret2
          exact ⟨_, rfl, hrow, hB⟩

theorem refWords_ok (s : ByteArray) (hs : s.size ≤ 65536) (hv : seenTo s s.size = true) (w : World) :
    Calls Try.prog 12 #[.string s] w fun e W' => ∃ v, e = .returned (.tuple #[v, .int .i64 0]) ∧ W'.ownsRow w.heap.size 9 1 v (wordsL s).length ((wordsL s).map Value.string) ∧ Below w.heap.size w W' :=
  callsIn_wide.1 (refWords_in Fence.wide 3 trivial rfl s hs hv w)

theorem refWords_long (s : ByteArray) (hs : 65536 < s.size) (w : World) : Calls Try.prog 12 #[.string s] w fun e w' => e = .returned (.tuple #[.slice none 0 0, .int .i64 2]) ∧ w' = w := by
  have hL : (decide ((65536 : Int) < (s.size : Int))) = true := decide_eq_true (by omega)
  go_enter Try.func12, Try.ntmps12
  go_wp2
  go_ret2
  exact ⟨rfl, rfl⟩

set_option maxRecDepth 100000 in
set_option maxHeartbeats 2000000 in
theorem refWords_byte (s : ByteArray) (hs : s.size ≤ 65536) (hv : seenTo s s.size = false) (w : World) : Calls Try.prog 12 #[.string s] w fun e w' => e = .returned (.tuple #[.slice none 0 0, .int .i64 11]) ∧ w' = w := by
  have hL : (decide ((65536 : Int) < (s.size : Int))) = false := decide_eq_false (by omega)
  go_enter Try.func12, Try.ntmps12
  go_wp2
  go_loopw [4] (fun i wr => ∃ k : Nat, k ≤ s.size ∧ i = .int .i64 k ∧ seenTo s k = true ∧ wr = w)
    (fun i _ => s.size - (intOf i).toNat)
  case atStart => exact ⟨0, Nat.zero_le _, rfl, rfl, rfl⟩
  case round =>
    obtain ⟨k, hk, rfl, hd, rfl⟩ := hrel
    by_cases hlt : k < s.size
    · have hN : (decide ((k : Int) < (s.size : Int))) = true := decide_eq_true (by omega)
      have hst := seen_step s k
      rw [hd, ← Mem.chr_get s k hlt] at hst
      by_cases h1 : s[k].toNat < 32
      · have hC1 : (decide (((s[k].toNat : Nat) : Int) < 32)) = true := decide_eq_true (by omega)
        go_wp2
        go_ret2
        exact ⟨rfl, rfl⟩
      · have hC1 : (decide (((s[k].toNat : Nat) : Int) < 32)) = false := decide_eq_false (by omega)
        by_cases h2 : 126 < s[k].toNat
        · have hC2 : (decide ((126 : Int) < ((s[k].toNat : Nat) : Int))) = true := decide_eq_true (by omega)
          go_wp2
          go_ret2
          exact ⟨rfl, rfl⟩
        · have hC2 : (decide ((126 : Int) < ((s[k].toNat : Nat) : Int))) = false := decide_eq_false (by omega)
          go_wp2
          refine ⟨⟨k + 1, by omega, rfl, by rw [hst]; simp; omega, trivial⟩, ?_⟩
          show s.size - ((k : Int) + 1).toNat < s.size - (k : Int).toNat
          omega
    · obtain rfl : k = s.size := by omega
      rw [hv] at hd
      cases hd


theorem same_nil (a b : Option Addr) (c1 c2 : Nat) (w : World) : Calls Try.prog 15 #[.slice a 0 c1, .slice b 0 c2] w fun e w' => e = .returned (.bool true) ∧ Below w.heap.size w w' := by
  go_enter Try.func15, Try.ntmps15
  go_wp2
  go_loopw [5] (fun i wr => i = .int .i64 0 ∧ wr = w) (fun _ _ => 0)
  case atStart => exact ⟨rfl, rfl⟩
  case round =>
    obtain ⟨rfl, hw⟩ := hrel
    have hw' := hw.symm
    subst hw'
    go_wp2
    go_ret
    exact ⟨rfl, Below.refl _ _⟩

open Go.ChangeShapes Go.WideShapes Go.ChangeAt Num Mem Words Chacha Aead in
theorem below_d {w : World} (d : Nat) : Below w.heap.size w (w.drewN d) := below_drewN (Below.refl _ _) d

theorem str_bne (x : ByteArray) : (x != x) = false := by
  have : (x == x) = true := by
    rcases x with ⟨d⟩
    show (d == d) = true
    simp
  unfold bne
  rw [this]
  rfl

set_option maxRecDepth 100000 in
set_option maxHeartbeats 2000000 in
theorem same_some (g g' c1 c2 : Nat) (xs : List ByteArray) (w : World) (hl : xs.length < 2 ^ 62) (h1 : ∀ i x, xs[i]? = some x → w.cell? ⟨g, i, none⟩ = some (.string x)) (h2 : ∀ i x, xs[i]? = some x → w.cell? ⟨g', i, none⟩ = some (.string x)) :
    Calls Try.prog 15 #[.slice (some ⟨g, 0, none⟩) xs.length c1, .slice (some ⟨g', 0, none⟩) xs.length c2] w fun e w' => e = .returned (.bool true) ∧ Below w.heap.size w w' := by
  have H1 := Lib.hid h1
  have H2 := Lib.hid h2
  clear h1 h2
  obtain ⟨n, hn⟩ : ∃ n, xs.length = n := ⟨_, rfl⟩
  have HN := Lib.hid hn
  rw [hn] at hl ⊢
  clear hn
  go_enter Try.func15, Try.ntmps15
  go_wp2
  go_loopw [5] (fun i wr => ∃ k d : Nat, k ≤ n ∧ i = .int .i64 k ∧ wr = w.drewN d) (fun i _ => n - (intOf i).toNat)
  case atStart => exact ⟨0, 0, Nat.zero_le _, rfl, rfl⟩
  case round =>
    obtain ⟨k, d, hk, rfl, rfl⟩ := hrel
    by_cases hlt : k < n
    · have hT : (decide ((k : Int) < (n : Int))) = true := decide_eq_true (by omega)
      obtain ⟨x, hx⟩ : ∃ x, xs[k]? = some x := ⟨xs[k]'(by rw [HN.out]; exact hlt), List.getElem?_eq_getElem _⟩
      have hc1 : w.cell? ⟨g, k, none⟩ = some (.string x) := H1.out k x hx
      have hc2 : w.cell? ⟨g', k, none⟩ = some (.string x) := H2.out k x hx
      have hne := str_bne x
      clear hx
      go_wp2
      go_quiet (fail)
      go_wp2_with fail
      refine ⟨⟨k + 1, _, by omega, rfl, rfl⟩, ?_⟩
      show n - ((k : Int) + 1).toNat < n - (k : Int).toNat
      omega
    · obtain rfl : k = n := by omega
      go_wp2
      go_ret
      exact ⟨rfl, below_d d⟩

end Text
end Go.Proofs.Ytkigkoeanhepkaa
