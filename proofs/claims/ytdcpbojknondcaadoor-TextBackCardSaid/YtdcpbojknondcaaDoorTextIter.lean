/- The iterator between of package text: the words that stand between blanks, in order. -/
import Derived.Test.YtdcpbojknondcaaDoorKit
import Derived.RangeFuncBox
import Derived.RangeFuncLeaves
import Derived.Shelf.Abstract
import Derived.OwnWalkIn
import Derived.TacticsInMore
import Derived.LoopNIn
import Derived.LoopIn
import Derived.Maps.AppendAt
import Derived.WalkKit
import Derived.Laws.DeepStrings4
namespace Go.Proofs.YtdcpbojknondcaaDoor
namespace Text
open Go.RowKit Go.Shelf

attribute [local go_sem] Oper.semAt_some

/-- byte i of a string is no blank -/
def solid (s : ByteArray) (i : Nat) : Bool := decide (i < s.size) && (Mem.chr s i != 32)
/-- where the word begins that is being read, and the words that have come, when k places are over -/
def wst (s : ByteArray) : Nat → Nat × List ByteArray
  | 0 => (0, [])
  | k + 1 => if solid s k then wst s k else (k + 1, if (wst s k).1 < k then (wst s k).2 ++ [s.extract (wst s k).1 k] else (wst s k).2)
/-- the words -/
def wordsL (s : ByteArray) : List ByteArray := (wst s (s.size + 1)).2
theorem wst_from (s : ByteArray) (k : Nat) : (wst s k).1 ≤ k := by
  induction k with
  | zero => exact Nat.le_refl _
  | succ k ih =>
    unfold wst
    split
    · omega
    · exact Nat.le_refl _
theorem wst_yes (s : ByteArray) (k : Nat) (h : solid s k = true) : wst s (k + 1) = wst s k := by
  rw [show wst s (k + 1) = if solid s k then wst s k else (k + 1, if (wst s k).1 < k then (wst s k).2 ++ [s.extract (wst s k).1 k] else (wst s k).2) from rfl, if_pos h]
theorem wst_no (s : ByteArray) (k : Nat) (h : solid s k = false) : wst s (k + 1) = (k + 1, if (wst s k).1 < k then (wst s k).2 ++ [s.extract (wst s k).1 k] else (wst s k).2) := by
  rw [show wst s (k + 1) = if solid s k then wst s k else (k + 1, if (wst s k).1 < k then (wst s k).2 ++ [s.extract (wst s k).1 k] else (wst s k).2) from rfl, if_neg (by rw [h]; decide)]
theorem wst_step (s : ByteArray) (k : Nat) : (wst s k).2 <+: (wst s (k + 1)).2 := by
  rw [show wst s (k + 1) = if solid s k then wst s k else (k + 1, if (wst s k).1 < k then (wst s k).2 ++ [s.extract (wst s k).1 k] else (wst s k).2) from rfl]
  split
  · exact List.prefix_refl _
  · dsimp only
    split
    · exact List.prefix_append _ _
    · exact List.prefix_refl _
theorem wst_more (s : ByteArray) (k m : Nat) : (wst s k).2 <+: (wst s (k + m)).2 := by
  induction m with
  | zero => exact List.prefix_refl _
  | succ m ih => exact ih.trans (wst_step s (k + m))
theorem wst_all (s : ByteArray) (k : Nat) (h : k ≤ s.size + 1) : (wst s k).2 <+: wordsL s := by
  have := wst_more s k (s.size + 1 - k)
  rwa [Nat.add_sub_cancel' h] at this
theorem wst_len (s : ByteArray) (k : Nat) : (wst s k).2.length ≤ k := by
  induction k with
  | zero => exact Nat.le_refl _
  | succ k ih =>
    rw [show wst s (k + 1) = if solid s k then wst s k else (k + 1, if (wst s k).1 < k then (wst s k).2 ++ [s.extract (wst s k).1 k] else (wst s k).2) from rfl]
    split
    · omega
    · dsimp only
      split
      · simp; omega
      · omega

set_option maxHeartbeats 1000000 in
theorem between_in (F : Fence) (n : Nat) (h5 : F.fn 22) (hro : F.round = none) (s : ByteArray) (w : World) :
    CallsIn F n Tryd.prog 22 #[.string s] w fun e w' => e = .returned (.func (.func 28) #[] #[.pointer (some ⟨w.heap.size, 0, none⟩)]) ∧ w' = w.alloc (.cells #[.string s] 9) := by
  refine callsIn_of_wp Tryd.func22 rfl h5 ?_ hro
  simp only [Tryd.ntmps22, List.size_toArray, List.length_cons, List.length_nil, Nat.reduceAdd, Nat.reduceSub, Array.replicate_succ, Array.replicate_zero, List.push_toArray, List.append_toArray, List.nil_append, List.cons_append]
  gi_wp2
  go_ret
  exact ⟨rfl, rfl⟩

/-- what a round leaves of the string's box -/
def Keeps (Bs : Nat) (W W' : World) : Prop := ∀ v, W.cell? ⟨Bs, 0, none⟩ = some v → W'.cell? ⟨Bs, 0, none⟩ = some v

set_option maxRecDepth 100000 in
set_option maxHeartbeats 4000000 in
theorem iter_in (F : Fence) (n : Nat) (h7 : F.fn 28) (hro : F.round = none) (hn : 1 ≤ n) (l Bs : Nat) (s : ByteArray) (hs : s.size ≤ 65536) (J Jx : List ByteArray → World → Prop)
    (hY : ∀ pre x W, J pre W → pre.length < (wordsL s).length → YieldAt F (n - 1) Tryd.prog l #[.string x] W fun e W' =>
      (e = .returned (.bool true) ∧ J (pre ++ [x]) W' ∧ Keeps Bs W W') ∨ (e = .returned (.bool false) ∧ Jx (pre ++ [x]) W'))
    (W : World) (hBs : W.cell? ⟨Bs, 0, none⟩ = some (.string s)) (h0 : J [] W) :
    CallsIn F n Tryd.prog 28 #[.func (.yield l) #[] #[], .pointer (some ⟨Bs, 0, none⟩)] W fun e W' => (∃ v, e = .returned v) ∧
      ((∃ ys, ys = wordsL s ∧ J ys W') ∨ (∃ pre, pre <+: wordsL s ∧ Jx pre W')) := by
  refine callsIn_of_wp Tryd.func28 rfl h7 ?_ hro
  simp only [Tryd.ntmps28, List.size_toArray, List.length_cons, List.length_nil, Nat.reduceAdd, Nat.reduceSub, Array.replicate_succ, Array.replicate_zero, List.push_toArray, List.append_toArray, List.nil_append, List.cons_append]
  gi_wp2
  gi_loopw [3, 8] (fun fr i wr => ∃ k : Nat, k ≤ s.size + 1 ∧ i = .int .i64 k ∧ fr = .int .i64 ((wst s k).1 : Nat) ∧ J (wst s k).2 wr ∧ wr.cell? ⟨Bs, 0, none⟩ = some (.string s))
    (fun _ i _ => s.size + 1 - (intOf i).toNat)
  case atStart => exact ⟨0, Nat.zero_le _, rfl, rfl, h0, hBs⟩
  case round =>
    obtain ⟨k, hk, rfl, rfl, hJ, hc⟩ := hrel
    have hfr := wst_from s k
    have hpre : k < s.size + 1 → solid s k = false → (wst s k).1 < k → (wst s k).2 ++ [s.extract (wst s k).1 k] <+: wordsL s := by
      intro h3 h1 h2
      have := wst_all s (k + 1) (by omega)
      rw [wst_no s k h1, if_pos h2] at this
      exact this
    have hlen : k < s.size + 1 → solid s k = false → (wst s k).1 < k → (wst s k).2.length < (wordsL s).length := by
      intro h3 h1 h2
      have := (hpre h3 h1 h2).length_le
      simp only [List.length_append, List.length_singleton] at this
      omega
    by_cases hlt : k < s.size + 1
    · have hN : (decide ((k : Int) < (s.size : Int) + 1)) = true := decide_eq_true (by omega)
      have hA0 : (0 : Int) ≤ ((wst s k).1 : Int) := Int.natCast_nonneg _
      have hA1 : ((wst s k).1 : Int) ≤ (k : Int) := Int.ofNat_le.2 hfr
      have hA2 : (k : Int) ≤ (s.size : Int) := by omega
      have hA3 : (0 : Int) ≤ (k : Int) := Int.natCast_nonneg _
      by_cases hin : k < s.size
      · have hI : (decide ((k : Int) < (s.size : Int))) = true := decide_eq_true (by omega)
        by_cases hb : s[k].toNat = 32
        · have hB : (((s[k].toNat : Nat) : Int) == 32) = true := by rw [hb]; rfl
          have hns : solid s k = false := by
            unfold solid
            rw [← Mem.chr_get s k hin, hb]
            simp
          by_cases hf : (wst s k).1 < k
          · have hF : (decide (((wst s k).1 : Int) < (k : Int))) = true := decide_eq_true (by omega)
            gi_wp2
            obtain ⟨fn, tmps, assign, body, hy, hR⟩ := hY (wst s k).2 (s.extract (wst s k).1 k) wr hJ (hlen hlt hns hf)
            rw [hy]
            gi_wp2
            refine hR.mono ?_
            rintro e W3 (⟨rfl, hJ3, hk3⟩ | ⟨rfl, hJx3⟩)
            · have hc3 := hk3 _ hc
              gi_wp2
              refine ⟨⟨k + 1, by omega, rfl, by rw [wst_no s k hns]; rfl, by rw [wst_no s k hns, if_pos hf]; exact hJ3, hc3⟩, ?_⟩
              show s.size + 1 - ((k : Int) + 1).toNat < s.size + 1 - (k : Int).toNat
              omega
            · gi_wp2
              refine bodyPost_ret (results_none rfl _ _ _) rfl ?_
              exact ⟨⟨_, rfl⟩, .inr ⟨(wst s k).2 ++ [s.extract (wst s k).1 k], hpre hlt hns hf, hJx3⟩⟩
          · have hF : (decide (((wst s k).1 : Int) < (k : Int))) = false := decide_eq_false (by omega)
            gi_wp2
            refine ⟨fun _ h => (nomatch h), ?_⟩
            gi_wp2
            refine ⟨⟨k + 1, by omega, rfl, by rw [wst_no s k hns]; rfl, by rw [wst_no s k hns, if_neg hf]; exact hJ, hc⟩, ?_⟩
            show s.size + 1 - ((k : Int) + 1).toNat < s.size + 1 - (k : Int).toNat
            omega
        · have hB : (((s[k].toNat : Nat) : Int) == 32) = false := beq_false_of_ne (by omega)
          have hso : solid s k = true := by
            unfold solid
            rw [← Mem.chr_get s k hin]
            simp [hin, hb]
          gi_wp2
          refine ⟨⟨k + 1, by omega, rfl, by rw [wst_yes s k hso], by rw [wst_yes s k hso]; exact hJ, hc⟩, ?_⟩
          show s.size + 1 - ((k : Int) + 1).toNat < s.size + 1 - (k : Int).toNat
          omega
      · have hI : (decide ((k : Int) < (s.size : Int))) = false := decide_eq_false (by omega)
        have hns : solid s k = false := by
          unfold solid
          simp [hin]
        by_cases hf : (wst s k).1 < k
        · have hF : (decide (((wst s k).1 : Int) < (k : Int))) = true := decide_eq_true (by omega)
          gi_wp2
          obtain ⟨fn, tmps, assign, body, hy, hR⟩ := hY (wst s k).2 (s.extract (wst s k).1 k) wr hJ (hlen hlt hns hf)
          rw [hy]
          gi_wp2
          refine hR.mono ?_
          rintro e W3 (⟨rfl, hJ3, hk3⟩ | ⟨rfl, hJx3⟩)
          · have hc3 := hk3 _ hc
            gi_wp2
            refine ⟨⟨k + 1, by omega, rfl, by rw [wst_no s k hns]; rfl, by rw [wst_no s k hns, if_pos hf]; exact hJ3, hc3⟩, ?_⟩
            show s.size + 1 - ((k : Int) + 1).toNat < s.size + 1 - (k : Int).toNat
            omega
          · gi_wp2
            refine bodyPost_ret (results_none rfl _ _ _) rfl ?_
            exact ⟨⟨_, rfl⟩, .inr ⟨(wst s k).2 ++ [s.extract (wst s k).1 k], hpre hlt hns hf, hJx3⟩⟩
        · have hF : (decide (((wst s k).1 : Int) < (k : Int))) = false := decide_eq_false (by omega)
          gi_wp2
          refine ⟨fun _ h => (nomatch h), ?_⟩
          gi_wp2
          refine ⟨⟨k + 1, by omega, rfl, by rw [wst_no s k hns]; rfl, by rw [wst_no s k hns, if_neg hf]; exact hJ, hc⟩, ?_⟩
          show s.size + 1 - ((k : Int) + 1).toNat < s.size + 1 - (k : Int).toNat
          omega
    · obtain rfl : k = s.size + 1 := by omega
      gi_wp2
      go_end0
      exact ⟨⟨_, rfl⟩, .inl ⟨_, rfl, hJ⟩⟩

end Text
end Go.Proofs.YtdcpbojknondcaaDoor
