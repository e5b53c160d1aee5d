/- '==' of messages: one with itself is the same. -/
import Derived.Test.YtfbkppabgogdgaaWireMsg
import Derived.DeepKeys
namespace Go.Proofs.Ytfbkppabgogdgaa
namespace Wire
open Mem

theorem eq_of_lits {P : Program} {t : TypeId} {m D : Nat} {cs : Array Value} (hk : P.keyTypeAt m t = true) (hm : m ≤ 10000) (hf : (Value.agg cs).formed P t = true) (hl : (P.keyLits D t cs.toList).isSome = true) (w : World) : (Op.equalIn 10000 t (.agg cs) (.agg cs)).run P w = .ok true w := by
  obtain ⟨la, hla⟩ := Option.isSome_iff_exists.1 hl
  obtain ⟨r, hr, hiff⟩ := run_equalIn_deep (10000 - m) m t hk w D D (.agg cs) (.agg cs) la la hf hf hla hla
  rw [show 10000 - m + m = 10000 by omega] at hr
  rw [hr, hiff.2 rfl]
theorem mapM_some {α β : Type} (f : α → Option β) : ∀ (l : List α), (∀ a ∈ l, (f a).isSome = true) → (l.mapM f).isSome = true := by
  intro l
  induction l with
  | nil => intro _; rfl
  | cons a l ih =>
    intro h
    obtain ⟨b, hb⟩ := Option.isSome_iff_exists.1 (h a (by simp))
    obtain ⟨r, hr⟩ := Option.isSome_iff_exists.1 (ih (fun x hx => h x (by simp [hx])))
    simp [List.mapM_cons, hb, hr]
theorem lits_u8 {P : Program} {e : TypeId} (he : P.underlying e = some (.int .u8)) (d a : Nat) (ha : a < 256) : (P.keyLits (d + 1) e [.int .u8 (a : Nat)]).isSome = true := by
  have h0 : IntKind.min .u8 = 0 := by decide
  have h1 : IntKind.max .u8 = 255 := by decide
  have h : (Lit.int .u8 (a : Nat)).wf = true := by
    show (decide (IntKind.min .u8 ≤ (a : Int)) && decide ((a : Int) ≤ IntKind.max .u8)) = true
    rw [h0, h1, Bool.and_eq_true, decide_eq_true_eq, decide_eq_true_eq]
    omega
  unfold Program.keyLits
  simp only [he]
  rw [if_pos ⟨trivial, h⟩]
  rfl
theorem lits_u32 {P : Program} {e : TypeId} (he : P.underlying e = some (.int .u32)) (d a : Nat) (ha : a < 4294967296) : (P.keyLits (d + 1) e [.int .u32 (a : Nat)]).isSome = true := by
  have h0 : IntKind.min .u32 = 0 := by decide
  have h1 : IntKind.max .u32 = 4294967295 := by decide
  have h : (Lit.int .u32 (a : Nat)).wf = true := by
    show (decide (IntKind.min .u32 ≤ (a : Int)) && decide ((a : Int) ≤ IntKind.max .u32)) = true
    rw [h0, h1, Bool.and_eq_true, decide_eq_true_eq, decide_eq_true_eq]
    omega
  unfold Program.keyLits
  simp only [he]
  rw [if_pos ⟨trivial, h⟩]
  rfl
theorem lits_bytes {P : Program} {t e : TypeId} {m : Nat} (ht : P.underlying t = some (.array m e)) (he : P.underlying e = some (.int .u8)) (hce : P.cellsOf e = 1) (hct : P.cellsOf t = m) (d : Nat) (g : Nat → Nat) (hg : ∀ i, g i < 256) : (P.keyLits (d + 2) t (byteCells g m)).isSome = true := by
  unfold Program.keyLits
  simp only [ht]
  rw [if_pos (by rw [byteCells_length, hct]), Option.isSome_map]
  refine mapM_some _ _ fun i hi => ?_
  rw [List.mem_range] at hi
  have e1 : ((byteCells g m).drop (i * P.cellsOf e)).take (P.cellsOf e) = [.int .u8 (g i : Nat)] := by
    rw [hce, Nat.mul_one, List.drop_eq_getElem_cons (by rw [byteCells_length]; exact hi), List.take_succ_cons, List.take_zero]
    have := byteCells_get g m i hi
    rw [List.getElem?_eq_getElem (by rw [byteCells_length]; exact hi)] at this
    rw [Option.some.inj this]
  rw [e1]
  exact lits_u8 he d _ (hg i)
theorem bytes_cut (g : Nat → Nat) (n o m : Nat) (h : o + m ≤ n) : ((byteCells g n).drop o).take m = byteCells (fun i => g (o + i)) m := by
  apply List.ext_getElem?
  intro i
  rw [List.getElem?_take]
  by_cases hi : i < m
  · rw [if_pos hi, List.getElem?_drop, byteCells_get _ _ _ (by omega), byteCells_get _ _ _ hi]
  · rw [if_neg hi, List.getElem?_eq_none (by rw [byteCells_length]; omega)]
theorem lits_struct {P : Program} {t : TypeId} {fs : Array Field} (ht : P.underlying t = some (.struct fs)) (d : Nat) (cs : List Value) (hl : cs.length = P.cellsOf t) (hn : fs.all (·.name != "_") = true) (h : ∀ f ∈ fs.toList, (P.keyLits d f.type ((cs.drop f.offset).take (P.cellsOf f.type))).isSome = true) : (P.keyLits (d + 1) t cs).isSome = true := by
  unfold Program.keyLits
  simp only [ht]
  rw [if_pos ⟨hl, hn⟩, Option.isSome_map]
  exact mapM_some _ _ h
theorem drop_one (s : Nat) (g : Nat → Nat) (n o : Nat) : (one s g n).drop (o + 1) = (byteCells g n).drop o := rfl
theorem drop_two (s r : Nat) (g : Nat → Nat) (n o : Nat) : (two s r g n).drop (o + 2) = (byteCells g n).drop o := rfl
set_option maxRecDepth 10000 in
theorem hello_lits (s : Nat) (g : Nat → Nat) (hs : s < 4294967296) (hg : ∀ i, g i < 256) : (Try.prog.keyLits 4 29 (one s g 140)).isSome = true := by
  refine lits_struct Try.underlying29 3 _ (by rw [one_length]; kernel_rfl) (by kernel_rfl) fun f hf => ?_
  simp only [List.mem_cons, List.not_mem_nil, or_false] at hf
  rcases hf with rfl | rfl | rfl | rfl | rfl | rfl
  · exact lits_u32 Try.underlying22 2 s hs
  · show (Try.prog.keyLits 3 24 (((one s g 140).drop 1).take (Try.prog.cellsOf 24))).isSome = true
    rw [show Try.prog.cellsOf 24 = 32 by kernel_rfl, show (one s g 140).drop 1 = (byteCells g 140).drop 0 from drop_one s g 140 0, bytes_cut g 140 0 32 (by omega)]
    exact lits_bytes Try.underlying24 Try.underlying5 (by kernel_rfl) (by kernel_rfl) 1 _ (fun i => hg _)
  · show (Try.prog.keyLits 3 25 (((one s g 140).drop 33).take (Try.prog.cellsOf 25))).isSome = true
    rw [show Try.prog.cellsOf 25 = 48 by kernel_rfl, show (one s g 140).drop 33 = (byteCells g 140).drop 32 from drop_one s g 140 32, bytes_cut g 140 32 48 (by omega)]
    exact lits_bytes Try.underlying25 Try.underlying5 (by kernel_rfl) (by kernel_rfl) 1 _ (fun i => hg _)
  · show (Try.prog.keyLits 3 26 (((one s g 140).drop 81).take (Try.prog.cellsOf 26))).isSome = true
    rw [show Try.prog.cellsOf 26 = 28 by kernel_rfl, show (one s g 140).drop 81 = (byteCells g 140).drop 80 from drop_one s g 140 80, bytes_cut g 140 80 28 (by omega)]
    exact lits_bytes Try.underlying26 Try.underlying5 (by kernel_rfl) (by kernel_rfl) 1 _ (fun i => hg _)
  · show (Try.prog.keyLits 3 27 (((one s g 140).drop 109).take (Try.prog.cellsOf 27))).isSome = true
    rw [show Try.prog.cellsOf 27 = 16 by kernel_rfl, show (one s g 140).drop 109 = (byteCells g 140).drop 108 from drop_one s g 140 108, bytes_cut g 140 108 16 (by omega)]
    exact lits_bytes Try.underlying27 Try.underlying5 (by kernel_rfl) (by kernel_rfl) 1 _ (fun i => hg _)
  · show (Try.prog.keyLits 3 27 (((one s g 140).drop 125).take (Try.prog.cellsOf 27))).isSome = true
    rw [show Try.prog.cellsOf 27 = 16 by kernel_rfl, show (one s g 140).drop 125 = (byteCells g 140).drop 124 from drop_one s g 140 124, bytes_cut g 140 124 16 (by omega)]
    exact lits_bytes Try.underlying27 Try.underlying5 (by kernel_rfl) (by kernel_rfl) 1 _ (fun i => hg _)
theorem hello_eq (s : Nat) (g : Nat → Nat) (hs : s < 4294967296) (hg : ∀ i, g i < 256) (w : World) : (Op.equalIn 10000 29 (.agg (one s g 140).toArray) (.agg (one s g 140).toArray)).run Try.prog w = .ok true w :=
  eq_of_lits (m := 4) (D := 4) (by kernel_rfl) (by omega) (by kernel_rfl) (hello_lits s g hs hg) w
set_option maxRecDepth 10000 in
theorem answer_lits (s r : Nat) (g : Nat → Nat) (hs : s < 4294967296) (hr : r < 4294967296) (hg : ∀ i, g i < 256) : (Try.prog.keyLits 4 31 (two s r g 80)).isSome = true := by
  refine lits_struct Try.underlying31 3 _ (by rw [two_length]; kernel_rfl) (by kernel_rfl) fun f hf => ?_
  simp only [List.mem_cons, List.not_mem_nil, or_false] at hf
  rcases hf with rfl | rfl | rfl | rfl | rfl | rfl
  · exact lits_u32 Try.underlying22 2 s hs
  · exact lits_u32 Try.underlying22 2 r hr
  · show (Try.prog.keyLits 3 24 (((two s r g 80).drop 2).take (Try.prog.cellsOf 24))).isSome = true
    rw [show Try.prog.cellsOf 24 = 32 by kernel_rfl, show (two s r g 80).drop 2 = (byteCells g 80).drop 0 from drop_two s r g 80 0, bytes_cut g 80 0 32 (by omega)]
    exact lits_bytes Try.underlying24 Try.underlying5 (by kernel_rfl) (by kernel_rfl) 1 _ (fun i => hg _)
  · show (Try.prog.keyLits 3 27 (((two s r g 80).drop 34).take (Try.prog.cellsOf 27))).isSome = true
    rw [show Try.prog.cellsOf 27 = 16 by kernel_rfl, show (two s r g 80).drop 34 = (byteCells g 80).drop 32 from drop_two s r g 80 32, bytes_cut g 80 32 16 (by omega)]
    exact lits_bytes Try.underlying27 Try.underlying5 (by kernel_rfl) (by kernel_rfl) 1 _ (fun i => hg _)
  · show (Try.prog.keyLits 3 27 (((two s r g 80).drop 50).take (Try.prog.cellsOf 27))).isSome = true
    rw [show Try.prog.cellsOf 27 = 16 by kernel_rfl, show (two s r g 80).drop 50 = (byteCells g 80).drop 48 from drop_two s r g 80 48, bytes_cut g 80 48 16 (by omega)]
    exact lits_bytes Try.underlying27 Try.underlying5 (by kernel_rfl) (by kernel_rfl) 1 _ (fun i => hg _)
  · show (Try.prog.keyLits 3 27 (((two s r g 80).drop 66).take (Try.prog.cellsOf 27))).isSome = true
    rw [show Try.prog.cellsOf 27 = 16 by kernel_rfl, show (two s r g 80).drop 66 = (byteCells g 80).drop 64 from drop_two s r g 80 64, bytes_cut g 80 64 16 (by omega)]
    exact lits_bytes Try.underlying27 Try.underlying5 (by kernel_rfl) (by kernel_rfl) 1 _ (fun i => hg _)
theorem answer_eq (s r : Nat) (g : Nat → Nat) (hs : s < 4294967296) (hr : r < 4294967296) (hg : ∀ i, g i < 256) (w : World) : (Op.equalIn 10000 31 (.agg (two s r g 80).toArray) (.agg (two s r g 80).toArray)).run Try.prog w = .ok true w :=
  eq_of_lits (m := 4) (D := 4) (by kernel_rfl) (by omega) (by kernel_rfl) (answer_lits s r g hs hr hg) w
set_option maxRecDepth 10000 in
theorem cookie_lits (s : Nat) (g : Nat → Nat) (hs : s < 4294967296) (hg : ∀ i, g i < 256) : (Try.prog.keyLits 4 34 (one s g 56)).isSome = true := by
  refine lits_struct Try.underlying34 3 _ (by rw [one_length]; kernel_rfl) (by kernel_rfl) fun f hf => ?_
  simp only [List.mem_cons, List.not_mem_nil, or_false] at hf
  rcases hf with rfl | rfl | rfl
  · exact lits_u32 Try.underlying22 2 s hs
  · show (Try.prog.keyLits 3 32 (((one s g 56).drop 1).take (Try.prog.cellsOf 32))).isSome = true
    rw [show Try.prog.cellsOf 32 = 24 by kernel_rfl, show (one s g 56).drop 1 = (byteCells g 56).drop 0 from drop_one s g 56 0, bytes_cut g 56 0 24 (by omega)]
    exact lits_bytes Try.underlying32 Try.underlying5 (by kernel_rfl) (by kernel_rfl) 1 _ (fun i => hg _)
  · show (Try.prog.keyLits 3 23 (((one s g 56).drop 25).take (Try.prog.cellsOf 23))).isSome = true
    rw [show Try.prog.cellsOf 23 = 32 by kernel_rfl, show (one s g 56).drop 25 = (byteCells g 56).drop 24 from drop_one s g 56 24, bytes_cut g 56 24 32 (by omega)]
    exact lits_bytes Try.underlying23 Try.underlying5 (by kernel_rfl) (by kernel_rfl) 1 _ (fun i => hg _)
theorem cookie_eq (s : Nat) (g : Nat → Nat) (hs : s < 4294967296) (hg : ∀ i, g i < 256) (w : World) : (Op.equalIn 10000 34 (.agg (one s g 56).toArray) (.agg (one s g 56).toArray)).run Try.prog w = .ok true w :=
  eq_of_lits (m := 4) (D := 4) (by kernel_rfl) (by omega) (by kernel_rfl) (cookie_lits s g hs hg) w

end Wire
end Go.Proofs.Ytfbkppabgogdgaa
