/- The call New of package pair, and 'Both' of the statements of layer 20. -/
import Derived.Test.YtdhjgenijieeaaaPairOpen
import Derived.Test.YtdhjgenijieeaaaFloatD
namespace Go.Proofs.Ytdhjgenijieeaaa
namespace Pr
open Go.ChangeShapes Go.WideShapes Go.ChangeAt Go.RowKit
open Num Mem Words Chacha Aead Poly Ops Quiet WinT Win

theorem seal_no (p : PS) (t : Int) (h0 : -9223372036854775808 ≤ t) (h1 : t ≤ 9223372036854775807) (A : Option Addr) (n c : Nat) (w : World) (h : sE p t n ≠ 0) :
    Calls Try.prog 17 #[pairV p, .slice A n c, .int .i64 t] w fun e w' => e = .returned (.tuple #[pairV p, .agg (dataL 0 0 (.slice none 0 0)).toArray, .int .i64 (sE p t n : Nat)]) ∧ Below w.heap.size w w' := by
  by_cases ho : oldB p t = true
  · rw [show sE p t n = 82 by unfold sE; rw [if_pos ho]]
    exact seal_old p t h0 h1 A n c w ho
  have ho' : oldB p t = false := by simpa using ho
  by_cases hs : spent ≤ p.sent
  · rw [show sE p t n = 81 by unfold sE; rw [if_neg ho, if_pos hs]]
    exact seal_spent p t h0 h1 A n c w ho' hs
  by_cases h16 : n % 16 = 0
  · by_cases hn : 1516 < n
    · rw [show sE p t n = 3 by unfold sE; rw [if_neg ho, if_neg hs, if_pos (.inr hn)]]
      exact seal_long p t h0 h1 A n c w ho' (by omega) h16 hn
    · exact absurd (by unfold sE; rw [if_neg ho, if_neg hs, if_neg (by omega)]) h
  · rw [show sE p t n = 3 by unfold sE; rw [if_neg ho, if_neg hs, if_pos (.inl h16)]]
    exact seal_size p t h0 h1 A n c w ho' (by omega) h16
theorem seal_yes (p : PS) (hp : p.ok) (t : Int) (h0 : -9223372036854775808 ≤ t) (h1 : t ≤ 9223372036854775807) (A : Option Addr) (n c : Nat) (f : Nat → Nat) (hf : ∀ i, f i < 256) (w : World) (hr : Rd w A n f) (h : sE p t n = 0) :
    Calls Try.prog 17 #[pairV p, .slice A n c, .int .i64 t] w fun e w' => ∃ A' c', e = .returned (.tuple #[pairV { p with sent := p.sent + 1 }, .agg (dataL p.m p.sent (.slice A' (n + 16) (n + 16))).toArray, .int .i64 0]) ∧ Own w' w.heap.size 5 A' (n + 16) c' (boxF p.s (bn (byteAt p.sent)) f n (fun _ => 0) 0) ∧ Below w.heap.size w w' := by
  unfold sE at h
  by_cases ho : oldB p t = true
  · rw [if_pos ho] at h; cases h
  rw [if_neg ho] at h
  by_cases hs : spent ≤ p.sent
  · rw [if_pos hs] at h; cases h
  rw [if_neg hs] at h
  by_cases h16 : n % 16 ≠ 0 ∨ 1516 < n
  · rw [if_pos h16] at h; cases h
  exact seal_fine p hp t h0 h1 A n c f hf w hr (by simpa using ho) (by omega) (by omega) (by omega)

theorem wpList_builtV {P : Program} {ops : Array Oper} {rest : List Oper} {o : Oper} {a : Act} {w : World} {Q : Exit → Act → World → Prop} (hg : o.guard = none) (t : TypeId) (fs : List (Nat × Operand)) (ho : o.op = .build t fs.toArray)
    (vs : List (Nat × Value)) (hv : fs.map (fun p => (p.1, a.eval p.2)) = vs) (out : Array Value) (hb : P.built t vs = some out) (h : wpList P ops Q rest (a.put o.dst (.agg out)) w) : wpList P ops Q (o :: rest) a w := by
  have e : P.built t (fs.toArray.map fun (i, x) => (i, a.eval x)).toList = some out := by
    rw [Array.toList_map, ← hb, ← hv]
  refine wpList_build hg t fs.toArray ho (by rw [e]; rfl) ?_
  rw [e]
  exact h

/-- a new pair -/
def newP (s r : Nat → Nat) (l m : Nat) (one : Bool) (born : Int) : PS := ⟨s, r, l, m, one, born, 0, ⟨0, 0, 0⟩⟩
theorem pair_built (s r : Nat → Nat) (l m : Nat) (one : Bool) (born : Int) : Try.prog.built 34 [(0, .agg (keysL s r l m one).toArray), (1, .int .i64 born)] = some (pairL (newP s r l m one born)).toArray := by kernel_rfl
theorem pair_built0 : Try.prog.built 34 [] = some (pairL noP).toArray := by kernel_rfl

set_option maxRecDepth 100000 in
set_option maxHeartbeats 2000000 in
theorem new_ok (s r : Nat → Nat) (l m : Nat) (one : Bool) (born : Int) (hb : rightT born = true) (w : World) :
    Calls Try.prog 15 #[.agg (keysL s r l m one).toArray, .int .i64 born] w fun e w' => e = .returned (.tuple #[pairV (newP s r l m one born), .int .i64 0]) ∧ Below w.heap.size w w' := by
  have HR := Lib.hid (fun w => right_any born w)
  rw [hb] at HR
  have HPB := Lib.hid (pair_built s r l m one born)
  have HS := Lib.hid (keysL_length s r l m one)
  have HPS := Lib.hid (pairL_length (newP s r l m one born))
  have HP1 := Lib.hid (pair_one (newP s r l m one born))
  unfold pairV
  obtain ⟨K, hK⟩ : ∃ K, keysL s r l m one = K := ⟨_, rfl⟩
  obtain ⟨L, hL⟩ : ∃ L, pairL (newP s r l m one born) = L := ⟨_, rfl⟩
  rw [hK] at HPB HS ⊢
  rw [hL] at HPB HPS HP1 ⊢
  obtain ⟨M, hM⟩ : ∃ M, pairL noP = M := ⟨_, rfl⟩
  have HMS := Lib.hid (show (pairL noP).length = 72 from pairL_length _)
  have hz := zero_pair
  rw [hM] at HMS hz
  clear hK hL hM hb
  go_enter Try.func15, Try.ntmps15
  go_upto_region 1 with fail
  refine cut_world (fun X => Whole X w.heap.size 27 K.toArray ∧ Whole X (w.heap.size + 1) 34 M.toArray ∧ Below w.heap.size w X) ⟨(Whole.new _ _ _).alloc _, whole_new _ _ (by simp), below_alloc (below_alloc (Below.refl _ _) _) _⟩ ?_
  rintro W ⟨k1, k2, kb⟩
  generalize hB : w.heap.size = B at k1 k2 kb ⊢
  have HB := Lib.hid hB
  have K1 := Lib.hid k1
  have K2 := Lib.hid k2
  have KB := Lib.hid kb
  clear hB k1 k2 kb hz
  go_wp2_with (first
    | (go_at_call 24; refine (HR.out _).mono ?_; rintro e w1 ⟨rfl, hb1⟩; replace KB := Lib.hid (KB.out.trans (hb1.mono (Nat.le_of_lt K1.out.lt))); replace K1 := Lib.hid (K1.out.below hb1 K1.out.lt); replace K2 := Lib.hid (K2.out.below hb1 K2.out.lt); clear hb1)
    | (refine Poly.wpList_load_row_if rfl 27 (.tmp 2) rfl B rfl 27 K _ K1.out rfl rfl (by rw [HS.out]; kernel_rfl) ?_)
    | (refine wpList_builtV rfl 34 [(0, .tmp 10), (1, .tmp 11)] rfl [(0, .agg K.toArray), (1, .int .i64 born)] rfl L.toArray HPB.out ?_)
    | (refine wpList_store_row rfl 34 (.tmp 4) (.tmp 12) rfl (B + 1) L.toArray rfl rfl 34 _ K2.out (by rw [List.size_toArray, HPS.out]; kernel_rfl) (by simp [HPS.out, HMS.out]) HP1.out ?_))
  refine bodyPost_ret (Poly.results_cell_tmp rfl _ _ (B + 1) 34 _ _ rfl (setRow_heap _ _ _ _ _ _ K2.out) rfl rfl (by rw [HPS.out]; kernel_rfl)) rfl ?_
  exact ⟨rfl, by rw [HB.out]; exact below_setRow KB.out (Nat.le_succ _) _⟩

set_option maxRecDepth 100000 in
set_option maxHeartbeats 2000000 in
theorem new_no (s r : Nat → Nat) (l m : Nat) (one : Bool) (born : Int) (hb : rightT born = false) (w : World) :
    Calls Try.prog 15 #[.agg (keysL s r l m one).toArray, .int .i64 born] w fun e w' => e = .returned (.tuple #[pairV noP, .int .i64 1]) ∧ Below w.heap.size w w' := by
  have HR := Lib.hid (fun w => right_any born w)
  rw [hb] at HR
  have HPB := Lib.hid pair_built0
  have HP1 := Lib.hid (pair_one noP)
  unfold pairV
  obtain ⟨K, hK⟩ : ∃ K, keysL s r l m one = K := ⟨_, rfl⟩
  rw [hK]
  obtain ⟨M, hM⟩ : ∃ M, pairL noP = M := ⟨_, rfl⟩
  have HMS := Lib.hid (show (pairL noP).length = 72 from pairL_length _)
  have hz := zero_pair
  rw [hM] at HMS hz HPB HP1 ⊢
  clear hK hM hb
  go_enter Try.func15, Try.ntmps15
  go_upto_region 1 with fail
  refine cut_world (fun X => Whole X (w.heap.size + 1) 34 M.toArray ∧ Below w.heap.size w X) ⟨whole_new _ _ (by simp), below_alloc (below_alloc (Below.refl _ _) _) _⟩ ?_
  rintro W ⟨k2, kb⟩
  generalize hB : w.heap.size = B at k2 kb ⊢
  have HB := Lib.hid hB
  have K2 := Lib.hid k2
  have KB := Lib.hid kb
  clear hB k2 kb hz
  go_wp2_with (first
    | (go_at_call 24; refine (HR.out _).mono ?_; rintro e w1 ⟨rfl, hb1⟩; replace KB := Lib.hid (KB.out.trans (hb1.mono (Nat.le_of_lt (Nat.lt_of_succ_lt K2.out.lt)))); replace K2 := Lib.hid (K2.out.below hb1 K2.out.lt); clear hb1)
    | (refine wpList_built0 rfl 34 rfl M.toArray HPB.out ?_)
    | (refine wpList_store_row rfl 34 (.tmp 4) (.tmp 9) rfl (B + 1) M.toArray rfl rfl 34 _ K2.out (by rw [List.size_toArray, HMS.out]; kernel_rfl) rfl HP1.out ?_))
  refine bodyPost_ret (Poly.results_cell_tmp rfl _ _ (B + 1) 34 _ _ rfl (setRow_heap _ _ _ _ _ _ K2.out) rfl rfl (by rw [HMS.out]; kernel_rfl)) rfl ?_
  exact ⟨rfl, by rw [HB.out]; exact below_setRow KB.out (Nat.le_succ _) _⟩

def oneF (k i : Nat) : Nat := if i = 0 then k else 0
theorem oneF_lt {k : Nat} (h : k < 256) (i : Nat) : oneF k i < 256 := by unfold oneF; split <;> omega
def pa : PS := newP (oneF 1) (oneF 2) 3 4 true 0
def pb : PS := newP (oneF 2) (oneF 1) 4 3 false 0
theorem zero_keys (w : World) : (zeroValue 27).run Try.prog w = .ok (.agg (keysL (fun _ => 0) (fun _ => 0) 0 0 false).toArray) w := by kernel_rfl
theorem key1 : Try.prog.built 24 [(0, .int .u8 1)] = some (byteCells (oneF 1) 32).toArray := by kernel_rfl
theorem key2 : Try.prog.built 24 [(0, .int .u8 2)] = some (byteCells (oneF 2) 32).toArray := by kernel_rfl
def keysI (s r : Nat → Nat) (l m : Int) (one : Bool) : List Value := byteCells s 32 ++ (byteCells r 32 ++ [.int .u32 l, .int .u32 m, .bool one])
theorem keys_one (s r : Nat → Nat) (l m : Int) (one : Bool) : (keysI s r l m one).toArray.all (·.oneCell') = true := by
  rw [List.all_toArray, List.all_eq_true]
  intro v hv
  rcases List.mem_append.1 hv with h | h
  · exact bytes_each _ _ v h
  rcases List.mem_append.1 h with h | h
  · exact bytes_each _ _ v h
  · simp only [List.mem_cons, List.not_mem_nil, or_false] at h
    rcases h with rfl | rfl | rfl <;> rfl
theorem keys5 (s r : Nat → Nat) (l m : Int) (one : Bool) : Try.prog.built 27 [(0, .agg (byteCells s 32).toArray), (1, .agg (byteCells r 32).toArray), (2, .int .u32 l), (3, .int .u32 m), (4, .bool one)] = some (keysI s r l m one).toArray := by kernel_rfl
theorem keys4 (s r : Nat → Nat) (l m : Int) : Try.prog.built 27 [(0, .agg (byteCells s 32).toArray), (1, .agg (byteCells r 32).toArray), (2, .int .u32 l), (3, .int .u32 m)] = some (keysI s r l m false).toArray := by kernel_rfl

end Pr
end Go.Proofs.Ytdhjgenijieeaaa
