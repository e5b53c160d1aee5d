/- Package trie: all: what its iterator hands out. -/
import Derived.Test.YtcpfchfhcfdcpaaTrTell
namespace Go.Proofs.Ytcpfchfhcfdcpaa
namespace Tri
open Go.RowKit Go.Shelf
open Num Mem Words Chacha Aead Poly Quiet Ops Adr

attribute [local go_sem] Oper.semAt_some

/-- a trie, whole -/
def IsTrie (A : Nat → Prop) (w : World) (ta tb : Tr) : Option Nat → Prop
  | none => ta = .nil ∧ tb = .nil
  | some b => ∃ k0 k1, A b ∧ Whole w b 81 #[ptrV k0, ptrV k1] ∧ IsT A w false ta k0 ∧ IsT A w true tb k1
def routes2 (ta tb : Tr) : List Rt := ta.routes false ++ tb.routes true
theorem IsTrie.keep {A B : Nat → Prop} {w w' : World} {ta tb : Tr} {q : Option Nat} (h : IsTrie A w ta tb q) (hk : ∀ i t cs, A i → Whole w i t cs → B i ∧ Whole w' i t cs) : IsTrie B w' ta tb q := by
  cases q with
  | none => exact h
  | some b =>
    obtain ⟨k0, k1, ha, hw, h0, h1⟩ := h
    exact ⟨k0, k1, (hk _ _ _ ha hw).1, (hk _ _ _ ha hw).2, h0.keep fun i cs => hk i _ cs, h1.keep fun i cs => hk i _ cs⟩
theorem IsTrie.low {n₀ : Nat} {w w' : World} {ta tb : Tr} {q : Option Nat} (h : IsTrie (fun i => i < n₀) w ta tb q) (hb : Below n₀ w w') : IsTrie (fun i => i < n₀) w' ta tb q := h.keep fun _ _ _ ha hw => ⟨ha, hw.below hb ha⟩
theorem IsTrie.below {A : Nat → Prop} {w w' : World} {ta tb : Tr} {q : Option Nat} (h : IsTrie A w ta tb q) (hb : Below w.heap.size w w') : IsTrie A w' ta tb q := h.keep fun _ _ _ ha hw => ⟨ha, hw.below hb hw.lt⟩
theorem IsTrie.here {A : Nat → Prop} {w : World} {ta tb : Tr} {q : Option Nat} (h : IsTrie A w ta tb q) : IsTrie (fun i => i < w.heap.size) w ta tb q := h.keep fun _ _ _ _ hw => ⟨hw.lt, hw⟩
theorem IsTrie.any {A : Nat → Prop} {w : World} {ta tb : Tr} {q : Option Nat} (h : IsTrie A w ta tb q) : IsTrie (fun _ => True) w ta tb q := h.keep fun _ _ _ _ hw => ⟨trivial, hw⟩

theorem run_index0 {o : Oper} {a : Act} {w : World} (x y : Operand) (ho : o.op = .index 79 x y) (k0 k1 : Option Nat) (hx : a.eval x = .agg #[ptrV k0, ptrV k1]) (hy : a.eval y = .int .i64 0) : (execOp a.eval o).run Try.prog w = .ok (.value (ptrV k0)) w := by
  unfold execOp
  simp only [ho, hx, hy]
  cases k0 <;> kernel_rfl
theorem run_index1 {o : Oper} {a : Act} {w : World} (x y : Operand) (ho : o.op = .index 79 x y) (k0 k1 : Option Nat) (hx : a.eval x = .agg #[ptrV k0, ptrV k1]) (hy : a.eval y = .int .i64 1) : (execOp a.eval o).run Try.prog w = .ok (.value (ptrV k1)) w := by
  unfold execOp
  simp only [ho, hx, hy]
  cases k1 <;> kernel_rfl
abbrev encRt (x : Rt) : Array Value := #[.agg x.cells.toArray]
set_option maxRecDepth 100000 in
set_option maxHeartbeats 4000000 in
theorem all_tells (n₀ : Nat) (w : World) (Bt : Nat) (q : Option Nat) (ta tb : Tr) (hc : w.cell? ⟨Bt, 0, none⟩ = some (ptrV q)) (hBt : Bt < w.heap.size) (hT : IsTrie (fun i => i < n₀) w ta tb q) :
    Tells Try.prog n₀ (fun _ => False) 46 #[.pointer (some ⟨Bt, 0, none⟩)] encRt (routes2 ta tb) w := by
  intro l J Jx W hW _ hW2 _ _ hY h0
  have hc1 : W.cell? ⟨Bt, 0, none⟩ = some (ptrV q) := (hW2.cell (p := ⟨Bt, 0, none⟩) hBt).trans hc
  replace hT := hT.low hW
  clear hc hBt hW hW2
  refine (callsIn_wide (n := 3)).1 ?_
  have hdd : ∀ k : Nat, (Fence.wide.depth.isSome = true → 1 ≤ k) := fun k h => by cases h
  cases q with
  | none =>
    obtain ⟨rfl, rfl⟩ := hT
    have H0 := Lib.hid h0
    clear h0 hY
    refine callsIn_of_wp Try.func46 rfl trivial ?_ rfl
    simp only [Try.ntmps46, List.size_toArray, List.length_cons, List.length_nil, Nat.reduceAdd, Nat.reduceSub, Array.replicate_succ, Array.replicate_zero, List.push_toArray, List.append_toArray, List.nil_append, List.cons_append]
    replace hc1 : W.cell? ⟨Bt, 0, none⟩ = some (.pointer none) := hc1
    gi_wp2
    refine bodyPost_ret (results_none rfl _ _ _) rfl ?_
    exact ⟨⟨_, rfl⟩, .inl H0.out⟩
  | some b =>
    obtain ⟨k0, k1, hb, hw, hta, htb⟩ := hT
    have HY := Lib.hid (show Yields Try.prog n₀ (fun _ => False) l (routes2 ta tb) J Jx from hY)
    have HTA := Lib.hid (show ∀ X, J [] X → Below n₀ W X → CallsIn Fence.wide (3 - 1) Try.prog 47 #[ptrV k0, .func (.yield l) #[] #[]] X fun e Y => (e = .returned (.bool true) ∧ J (ta.routes false) Y ∧ Below n₀ W Y) ∨ (e = .returned (.bool false) ∧ ∃ p, p <+: routes2 ta tb ∧ Jx p Y) from fun X hJ hX =>
      (tell_in n₀ (fun _ => False) l (routes2 ta tb) J Jx HY.out false ta (3 - 1) k0 [] X (isT_low hta hX) hJ (List.prefix_append _ _)).mono fun e Y h => h.elim (fun ⟨h1, h2, h3⟩ => .inl ⟨h1, h2, hX.trans h3⟩) (fun ⟨h1, p, h2, h3⟩ => .inr ⟨h1, p, h2, h3⟩))
    have HTB := Lib.hid (show ∀ X, J (ta.routes false) X → Below n₀ W X → CallsIn Fence.wide (3 - 1) Try.prog 47 #[ptrV k1, .func (.yield l) #[] #[]] X fun e Y => (e = .returned (.bool true) ∧ J (routes2 ta tb) Y ∧ Below n₀ W Y) ∨ (e = .returned (.bool false) ∧ ∃ p, p <+: routes2 ta tb ∧ Jx p Y) from fun X hJ hX =>
      (tell_in n₀ (fun _ => False) l (routes2 ta tb) J Jx HY.out true tb (3 - 1) k1 _ X (isT_low htb hX) hJ (List.prefix_refl _)).mono fun e Y h => h.elim (fun ⟨h1, h2, h3⟩ => .inl ⟨h1, h2, hX.trans h3⟩) (fun ⟨h1, p, h2, h3⟩ => .inr ⟨h1, _, h2, h3⟩))
    have HR := Lib.hid (show W.rangeAt b 0 [ptrV k0, ptrV k1] from fun j v hj => by rw [Nat.zero_add, hw.cell, List.getElem?_toArray]; exact hj)
    have H0 := Lib.hid h0
    clear h0 hY HY hw hta htb
    replace hc1 : W.cell? ⟨Bt, 0, none⟩ = some (.pointer (some ⟨b, 0, none⟩)) := hc1
    refine callsIn_of_wp Try.func46 rfl trivial ?_ rfl
    simp only [Try.ntmps46, List.size_toArray, List.length_cons, List.length_nil, Nat.reduceAdd, Nat.reduceSub, Array.replicate_succ, Array.replicate_zero, List.push_toArray, List.append_toArray, List.nil_append, List.cons_append]
    gi_wp2_with (refine listIn_value (fun _ => trivial) (by rfl) (fun c h => by cases h) _ (run_mid_in 79 (.tmp 9) rfl b 0 rfl [ptrV k0, ptrV k1] _ HR.out rfl rfl (by kernel_rfl)) ?_)
    gi_loopw [11] (fun i wr => Below n₀ W wr ∧ ((i = .int .i64 0 ∧ J [] wr) ∨ (i = .int .i64 1 ∧ J (ta.routes false) wr) ∨ (i = .int .i64 2 ∧ J (routes2 ta tb) wr))) (fun i _ => 2 - (intOf i).toNat)
    case atStart => exact ⟨Below.refl _ _, .inl ⟨rfl, H0.out⟩⟩
    case round =>
      obtain ⟨hB, ⟨rfl, hJ⟩ | ⟨rfl, hJ⟩ | ⟨rfl, hJ⟩⟩ := hrel
      · have HC := Lib.hid (HTA.out _ hJ hB)
        clear hJ hB HTA H0
        gi_wp2_with  (first | (refine listIn_value (fun _ => trivial) (by rfl) (fun c h => by cases h) _ (run_index0 (.tmp 10) (.tmp 11) rfl k0 k1 rfl rfl) ?_) | ((try refine ⟨trivial, ?_⟩); (try refine ⟨hdd _, ?_⟩); gi_at_call 47; refine HC.out.mono ?_; clear HC; rintro e W3 (⟨rfl, hJ3, hb3⟩ | ⟨rfl, hx3⟩)))
        · go_roundw
          case rel => exact ⟨hb3, .inr (.inl ⟨rfl, hJ3⟩)⟩
          case measure => decide
        · refine bodyPost_ret (results_none rfl _ _ _) rfl ?_
          exact ⟨⟨_, rfl⟩, .inr hx3⟩
      · have HC := Lib.hid (HTB.out _ hJ hB)
        clear hJ hB HTA HTB H0
        gi_wp2_with  (first | (refine listIn_value (fun _ => trivial) (by rfl) (fun c h => by cases h) _ (run_index1 (.tmp 10) (.tmp 11) rfl k0 k1 rfl rfl) ?_) | ((try refine ⟨trivial, ?_⟩); (try refine ⟨hdd _, ?_⟩); gi_at_call 47; refine HC.out.mono ?_; clear HC; rintro e W3 (⟨rfl, hJ3, hb3⟩ | ⟨rfl, hx3⟩)))
        · go_roundw
          case rel => exact ⟨hb3, .inr (.inr ⟨rfl, hJ3⟩)⟩
          case measure => decide
        · refine bodyPost_ret (results_none rfl _ _ _) rfl ?_
          exact ⟨⟨_, rfl⟩, .inr hx3⟩
      · have HJ := Lib.hid hJ
        clear hJ
        gi_wp2
        go_end0
        exact ⟨⟨_, rfl⟩, .inl HJ.out⟩
set_option maxRecDepth 100000 in
theorem all_any (q : Option Nat) (w : World) : Calls Try.prog 30 #[ptrV q] w fun e w' => e = .returned (.func (.func 46) #[] #[.pointer (some ⟨w.heap.size, 0, none⟩)]) ∧ w' = w.alloc (.cells #[ptrV q] 23) := by
  have hq : ∃ a, ptrV q = .pointer a := by cases q; exact ⟨_, rfl⟩; exact ⟨_, rfl⟩
  obtain ⟨a, ha⟩ := hq
  rw [ha]
  clear ha
  go_enter Try.func30, Try.ntmps30
  go_wp2
  go_ret
  exact ⟨rfl, rfl⟩
end Tri
end Go.Proofs.Ytcpfchfhcfdcpaa
