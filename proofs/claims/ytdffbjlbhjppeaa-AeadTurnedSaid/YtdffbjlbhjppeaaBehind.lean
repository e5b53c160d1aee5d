/- The calls behindNoughts, Counter and tooLong of package aead. -/
import Derived.Test.YtdffbjlbhjppeaaCopy
import Derived.Test.YtdffbjlbhjppeaaWordsTwo
import Derived.Test.YtdffbjlbhjppeaaPolyBoth
namespace Go.Proofs.Ytdffbjlbhjppeaa
namespace Aead
open Go.ChangeShapes Go.WideShapes Go.ChangeAt Go.RowKit
open Num Mem Words PolyN Chacha Quiet Poly

theorem wpList_copy {P : Program} {ops : Array Oper} {rest : List Oper} {o : Oper} {a : Act} {w : World} {Q : Exit → Act → World → Prop} (hgd : o.guard = none) (d s : Operand) (dT sT : TypeId)
    (ho : o.op = .call { callee := .builtin .copy, args := #[d, s], argTypes := #[dT, sT] }) (elem : TypeId) (hu : P.underlying dT = some (.slice elem)) (hsz : (P.info? elem).map (·.size) = some 1)
    (g off dLen dCap : Nat) (ad : Addr) (sLen sCap : Nat) (hd : a.eval d = .slice (some ⟨g, off, none⟩) dLen dCap) (hs : a.eval s = .slice (some ad) sLen sCap)
    (cur : List Value) (t : TypeId) (hg : w.heap[g]? = some (.cells cur.toArray t (0, 0))) (cs : List Value) (hn : cs.length = Nat.min sLen dLen)
    (hsrc : ∀ j v, cs[j]? = some v → w.cell? (ad.add j) = some v)
    (hfit : off + cs.length ≤ cur.length) (h1 : ∀ v ∈ cs, v.oneCell' = true)
    (h : ∀ w', Hid (w'.heap[g]? = some (.cells (splice cur off cs).toArray t (0, 0))) → w.grownBy w' (some g) → wpList P ops Q rest (a.put o.dst (goInt cs.length)) w') : wpList P ops Q (o :: rest) a w :=
  wpList_step fun _ hK => step_copy_grown hgd d s dT sT ho elem hu hsz g off dLen dCap ad sLen sCap hd hs cur t hg cs hn hsrc hfit h1 fun w' h2 h3 => hK _ _ (h w' h2 h3)

/-- four noughts, and eight bytes behind them -/
def bn (f : Nat → Nat) (i : Nat) : Nat := if 4 ≤ i then f (i - 4) else 0
theorem bn_lt {f : Nat → Nat} (h : ∀ i, f i < 256) (i : Nat) : bn f i < 256 := by
  have := h (i - 4)
  unfold bn
  split <;> omega

set_option maxRecDepth 100000 in
theorem behind_any (b off c : Nat) (f : Nat → Nat) (w : World) (hb : b < w.heap.size) (hr : ∀ i, i < 8 → w.cell? ⟨b, off + i, none⟩ = some (.int .u8 (f i : Nat))) :
    Calls Try.prog 49 #[.slice (some ⟨b, off, none⟩) 8 c] w fun e w' => e = .returned (.agg (byteCells (bn f) 12).toArray) ∧ Below w.heap.size w w' := by
  have hrd : Rd w (some ⟨b, off, none⟩) 8 f := .inr ⟨b, off, rfl, hb, hr⟩
  have HR := Lib.hid hrd
  clear hr hrd
  go_enter Try.func49, Try.ntmps49
  go_upto_region 2 with fail
  refine cut_world (fun W => Whole W w.heap.size 41 (byteCells (fun _ => 0) 12).toArray ∧ Whole W (w.heap.size + 1) 41 (byteCells (fun _ => 0) 12).toArray ∧ Below w.heap.size w W) ⟨?_, ?_, ?_⟩ ?_
  · exact (whole_new _ _ (by simp)).alloc _
  · exact whole_new _ _ (by simp)
  · exact below_alloc (below_alloc (Below.refl _ _) _) _
  rintro W ⟨k1, k2, kb⟩
  have K1 := Lib.hid k1
  have K2 := Lib.hid k2
  have KB := Lib.hid kb
  have HS := Lib.hid (show ∀ (j : Nat) (v : Value), (byteCells f 8)[j]? = some v → W.cell? ((⟨b, off, none⟩ : Addr).add j) = some v from by
    rcases HR.out.below kb (Nat.le_refl _) with h | ⟨b', off', e, _, hc⟩
    · omega
    · injection e with e
      injection e with e1 e2
      subst e1
      subst e2
      exact rd_src hc)
  have hl2 := k2.lt
  clear k1 k2 kb
  generalize hB : w.heap.size = B at K1 K2 KB hl2 ⊢
  have HZ12 := Lib.hid (show ∀ f, (byteCells f 12).toArray.size = 12 from fun f => by rw [List.size_toArray, byteCells_length])
  go_upto_region 3 with (refine wpList_copy rfl (.tmp 4) (.tmp 5) 23 23 rfl 5 rfl (by kernel_rfl) (B + 1) 4 8 8 ⟨b, off, none⟩ 8 c rfl rfl (byteCells (fun _ => 0) 12) 41 K2.out (byteCells f 8) (by rw [byteCells_length]; rfl) HS.out (by rw [byteCells_length, byteCells_length]; omega) (bytes_each _ _) ?_; intro w8 hg8 hb8)
  have L2 := Lib.hid (show Whole w8 (B + 1) 41 (byteCells (bn f) 12).toArray from by
    have h := hg8.out
    rw [byteCells_splice (fun _ => 0) f (bn f) 12 4 8 (by omega) (fun i hi => by
      unfold bn
      by_cases l : 4 ≤ i
      · rw [if_pos l, if_pos ⟨by omega, by omega⟩]
      · rw [if_neg l, if_neg (by omega)])] at h
    exact h)
  have L1 := Lib.hid (whole_grown (w := w8) K1.out hb8 (by omega))
  have LB := Lib.hid (below_grown KB.out hb8 (by omega) (by omega))
  clear hg8 hb8 K1 K2 KB HS
  go_wp2_with (first | (refine wpList_load_row rfl 41 (.tmp 3) rfl (B + 1) rfl 41 (byteCells (bn f) 12).toArray (0, 0) _ L2.out rfl rfl (by rw [HZ12.out]; kernel_rfl) ?_) | (refine wpList_store_row rfl 41 (.tmp 2) (.tmp 7) rfl B (byteCells (bn f) 12).toArray rfl rfl 41 _ L1.out (by rw [HZ12.out]; kernel_rfl) (by rw [HZ12.out, HZ12.out]) (bytes_one _ _) ?_))
  have hret : Whole (w8.setRow B (byteCells (bn f) 12).toArray) B 41 (byteCells (bn f) 12).toArray := setRow_heap w8 _ _ _ _ _ L1.out
  refine bodyPost_ret (results_cell_row rfl _ _ B 41 _ (0, 0) _ rfl hret rfl rfl (by rw [HZ12.out]; kernel_rfl)) rfl ?_
  exact ⟨rfl, by rw [hB]; exact below_setRow LB.out (by omega) _⟩

set_option maxRecDepth 100000 in
theorem counter_any (v : Nat) (hv : v < 18446744073709551616) (w : World) :
    Calls Try.prog 28 #[.int .u64 v] w fun e w' => e = .returned (.agg (byteCells (bn (byteAt v)) 12).toArray) ∧ Below w.heap.size w w' := by
  have HZ12 := Lib.hid (show ∀ f, (byteCells f 12).toArray.size = 12 from fun f => by rw [List.size_toArray, byteCells_length])
  have HZ8 := Lib.hid (show ∀ f, (byteCells f 8).toArray.size = 8 from fun f => by rw [List.size_toArray, byteCells_length])
  go_enter Try.func28, Try.ntmps28
  go_upto_region 1 with fail
  refine cut_world (fun W => Whole W w.heap.size 41 (byteCells (fun _ => 0) 12).toArray ∧ Below w.heap.size w W) ⟨?_, ?_⟩ ?_
  · exact whole_new _ _ (by simp)
  · exact below_alloc (Below.refl _ _) _
  rintro W ⟨k1, kb⟩
  have K1 := Lib.hid k1
  have KB := Lib.hid kb
  have hl1 := k1.lt
  clear k1 kb
  generalize hB : w.heap.size = B at K1 KB hl1 ⊢
  go_wp2_with fail
  refine (put64_any v hv _).mono ?_
  rintro e w1 ⟨rfl, hb1⟩
  have L1 := Lib.hid (K1.out.below hb1 K1.out.lt)
  have LB := Lib.hid (KB.out.trans (hb1.mono (by omega)))
  have hs1 := hb1.size
  clear hb1 K1 KB
  go_upto_region 2 with (refine wpList_store_row rfl 75 (.tmp 3) (.tmp 5) rfl w1.heap.size (byteCells (byteAt v) 8).toArray rfl rfl 75 _ (Whole.new _ _ _) (by rw [HZ8.out]; kernel_rfl) (by rw [HZ8.out]; rfl) (bytes_one _ _) ?_)
  try simp only [Act.put]
  refine cut_world (fun W => Whole W B 41 (byteCells (fun _ => 0) 12).toArray ∧ Whole W w1.heap.size 75 (byteCells (byteAt v) 8).toArray ∧ Below B w W) ⟨?_, ?_, ?_⟩ ?_
  · exact (setRow_other _ _ _ _ (by omega)).trans (L1.out.alloc _)
  · exact setRow_heap _ _ _ _ _ _ (Whole.new _ _ _)
  · exact below_setRow (LB.out.alloc (by omega) _) (by omega) _
  rintro W2 ⟨k1, k3, kb⟩
  have K1 := Lib.hid k1
  have K3 := Lib.hid k3
  have KB := Lib.hid kb
  have hl3 := k3.lt
  have hG : B < w1.heap.size := by omega
  clear k1 k3 kb L1 LB hs1 hl1
  generalize w1.heap.size = G at K3 hl3 hG ⊢
  go_wp2_with fail
  refine (behind_any G 0 8 (byteAt v) _ (by omega) (fun i hi => K3.out.bytes i hi)).mono ?_
  rintro e w3 ⟨rfl, hb3⟩
  have L1 := Lib.hid (K1.out.below hb3 K1.out.lt)
  have LB := Lib.hid (KB.out.trans (hb3.mono (by omega)))
  clear hb3 K1 K3 KB
  generalize hF : bn (byteAt v) = F at ⊢
  go_wp2_with (refine wpList_store_row rfl 41 (.tmp 2) (.tmp 7) rfl B (byteCells F 12).toArray rfl rfl 41 _ L1.out (by rw [HZ12.out]; kernel_rfl) (by rw [HZ12.out, HZ12.out]) (bytes_one _ _) ?_)
  have hret : Whole (w3.setRow B (byteCells F 12).toArray) B 41 (byteCells F 12).toArray := setRow_heap w3 _ _ _ _ _ L1.out
  refine bodyPost_ret (results_cell_row rfl _ _ B 41 _ (0, 0) _ rfl hret rfl rfl (by rw [HZ12.out]; kernel_rfl)) rfl ?_
  exact ⟨by rw [hF], by rw [hB]; exact below_setRow LB.out (by omega) _⟩

set_option maxRecDepth 100000 in
theorem tooLong_any (A1 A2 : Option Addr) (n1 c1 n2 c2 : Nat) (b : Bool) (hb : b = true ↔ 65536 < n1 ∨ 65536 < n2) (w : World) :
    Calls Try.prog 40 #[.slice A1 n1 c1, .slice A2 n2 c2] w fun e w' => e = .returned (.bool b) ∧ w = w' := by
  go_enter Try.func40, Try.ntmps40
  by_cases h1 : 65536 < n1
  · have hd1 : decide ((65536 : Int) < (n1 : Int)) = true := decide_eq_true (by omega)
    obtain rfl : b = true := hb.2 (.inl h1)
    go_wp2_with fail
    go_ret
    exact ⟨rfl, rfl⟩
  · have hd1 : decide ((65536 : Int) < (n1 : Int)) = false := decide_eq_false (by omega)
    by_cases h2 : 65536 < n2
    · have hd2 : decide ((65536 : Int) < (n2 : Int)) = true := decide_eq_true (by omega)
      obtain rfl : b = true := hb.2 (.inr h2)
      go_wp2_with fail
      go_ret
      exact ⟨rfl, rfl⟩
    · have hd2 : decide ((65536 : Int) < (n2 : Int)) = false := decide_eq_false (by omega)
      obtain rfl : b = false := by
        rcases b with _ | _
        · rfl
        · rcases hb.1 rfl with h | h <;> omega
      go_wp2_with fail
      go_ret
      exact ⟨rfl, rfl⟩

end Aead
end Go.Proofs.Ytdffbjlbhjppeaa
