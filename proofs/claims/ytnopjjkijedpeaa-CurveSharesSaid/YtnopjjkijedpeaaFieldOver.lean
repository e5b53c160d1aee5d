/- The call Over of package field: the inverse. -/
import Derived.Test.YtnopjjkijedpeaaFieldPower
namespace Go.Proofs.Ytnopjjkijedpeaa
namespace Field
open Go.ChangeShapes Go.WideShapes Go.ChangeAt Go.RowKit
open Num Mem Words Radix FieldN Chacha Quiet

/-- the exponent's bytes, of which k have been laid behind the first -/
def exF (k i : Nat) : Nat := if 1 ≤ i ∧ i < 1 + k then 255 else if i = 0 then 235 else if i = 31 then 127 else 0
theorem exF_lt (k i : Nat) : exF k i < 256 := by
  unfold exF
  split
  · omega
  · split
    · omega
    · split <;> omega
theorem exF_all : le (exF 30) 0 32 = P - 2 := by unfold P; decide
theorem exF_built : Try.prog.built 22 [(0, .int .u8 235), (31, .int .u8 127)] = some (byteCells (exF 0) 32).toArray := by kernel_rfl
theorem wpList_built0 {P : Program} {ops : Array Oper} {rest : List Oper} {o : Oper} {a : Act} {w : World} {Q : Exit → Act → World → Prop} (hg : o.guard = none) (t : TypeId) (ho : o.op = .build t #[])
    (vs : Array Value) (hb : P.built t [] = some vs) (h : wpList P ops Q rest (a.put o.dst (.agg vs)) w) : wpList P ops Q (o :: rest) a w := by
  have e : P.built t ((#[] : Array (Nat × Operand)).map fun (i, x) => (i, a.eval x)).toList = some vs := by simpa using hb
  refine wpList_build hg t #[] ho (by rw [e]; rfl) ?_
  rw [e]
  exact h
theorem wpList_built1 {P : Program} {ops : Array Oper} {rest : List Oper} {o : Oper} {a : Act} {w : World} {Q : Exit → Act → World → Prop} (hg : o.guard = none) (t : TypeId) (k : Nat) (x : Operand) (ho : o.op = .build t #[(k, x)])
    (v : Value) (hx : a.eval x = v) (vs : Array Value) (hb : P.built t [(k, v)] = some vs) (h : wpList P ops Q rest (a.put o.dst (.agg vs)) w) : wpList P ops Q (o :: rest) a w := by
  have e : P.built t ((#[(k, x)] : Array (Nat × Operand)).map fun (i, x) => (i, a.eval x)).toList = some vs := by simpa [hx] using hb
  refine wpList_build hg t #[(k, x)] ho (by rw [e]; rfl) ?_
  rw [e]
  exact h
theorem wpList_built2 {P : Program} {ops : Array Oper} {rest : List Oper} {o : Oper} {a : Act} {w : World} {Q : Exit → Act → World → Prop} (hg : o.guard = none) (t : TypeId) (k m : Nat) (x y : Operand) (ho : o.op = .build t #[(k, x), (m, y)])
    (v u : Value) (hx : a.eval x = v) (hy : a.eval y = u) (vs : Array Value) (hb : P.built t [(k, v), (m, u)] = some vs) (h : wpList P ops Q rest (a.put o.dst (.agg vs)) w) : wpList P ops Q (o :: rest) a w := by
  have e : P.built t ((#[(k, x), (m, y)] : Array (Nat × Operand)).map fun (i, x) => (i, a.eval x)).toList = some vs := by simpa [hx, hy] using hb
  refine wpList_build hg t #[(k, x), (m, y)] ho (by rw [e]; rfl) ?_
  rw [e]
  exact h
theorem exF_next (k : Nat) (hk : k < 30) : byteCells (fun i => if i = 1 + k then 255 else exF k i) 32 = byteCells (exF (k + 1)) 32 := by
  refine byteCells_congr fun i hi => ?_
  unfold exF
  by_cases e : i = 1 + k
  · rw [if_pos e, if_pos (by omega)]
  · rw [if_neg e]
    by_cases l : 1 ≤ i ∧ i < 1 + k
    · rw [if_pos l, if_pos (by omega)]
    · rw [if_neg l, if_neg (show ¬ (1 ≤ i ∧ i < 1 + (k + 1)) by omega)]

set_option maxRecDepth 100000 in
theorem over_core (x : Nat → Nat) (R : Value) (L : Nat → Nat) (hR : R = .agg (qcells L 5).toArray) (hp : ∀ w, Calls Try.prog 47 #[.agg (qcells x 5).toArray, .agg (byteCells (exF 30) 32).toArray] w fun e w' => e = .returned R ∧ Below w.heap.size w w') (w : World) :
    Calls Try.prog 26 #[.agg (qcells x 5).toArray] w fun e w' => e = .returned R ∧ Below w.heap.size w w' := by
  subst hR
  have HPW := Lib.hid hp
  clear hp
  rw [qcells_lit5 x]
  go_enter Try.func26, Try.ntmps26
  go_upto_region 1 with fail
  rw [← qcells_lit5 x]
  have HZ := Lib.hid (show ∀ f, (byteCells f 32).toArray.size = 32 from fun f => by rw [List.size_toArray, byteCells_length])
  refine cut_world (fun W => Whole W w.heap.size 38 (qcells x 5).toArray ∧ Whole W (w.heap.size + 1) 38 (qcells (fun _ => 0) 5).toArray ∧ Below w.heap.size w W ∧ W.heap.size = w.heap.size + 1 + 1) ⟨?_, ?_, ?_, by simp⟩ ?_
  · exact (whole_new _ _ rfl).alloc _
  · exact whole_new _ _ (by simp)
  · exact below_alloc (below_alloc (Below.refl _ _) _) _
  rintro W0 ⟨k1, k2, kb, hsz⟩
  have K1 := Lib.hid k1
  have K2 := Lib.hid k2
  have KB := Lib.hid kb
  have HS := Lib.hid hsz
  clear k1 k2 kb hsz
  generalize hB : w.heap.size = B at K1 K2 KB HS ⊢
  have HBU := Lib.hid exF_built
  generalize hE0 : exF 0 = E0 at HBU
  have HE0 := Lib.hid hE0
  clear hE0
  go_upto_region 2 with (first | (refine wpList_built2 rfl 22 0 31 (.const (.int .u8 235)) (.const (.int .u8 127)) rfl (.int .u8 235) (.int .u8 127) rfl rfl (byteCells E0 32).toArray HBU.out ?_) | (refine wpList_store_row rfl 22 (.tmp 3) (.tmp 5) rfl W0.heap.size (byteCells E0 32).toArray rfl rfl 22 _ (Whole.new _ _ _) (by rw [HZ.out]; kernel_rfl) (by rw [HZ.out]; rfl) (bytes_one _ _) ?_))
  refine cut_world (fun X => Whole X B 38 (qcells x 5).toArray ∧ Whole X (B + 1) 38 (qcells (fun _ => 0) 5).toArray ∧ Whole X W0.heap.size 22 (byteCells (exF 0) 32).toArray ∧ Below B w X) ⟨Whole.farRow (K1.out.alloc _) (by rw [HS.out]; omega) _, Whole.farRow (K2.out.alloc _) (by rw [HS.out]; omega) _, by rw [HE0.out]; exact setRow_heap _ _ _ _ _ _ (Whole.new _ _ _), below_setRow (KB.out.alloc (by rw [HS.out]; omega) _) (by rw [HS.out]; omega) _⟩ ?_
  rw [HS.out]
  clear K1 K2 KB HS HE0 HBU
  rintro W ⟨k1, k2, k3, kb⟩
  have K1 := Lib.hid k1
  have K2 := Lib.hid k2
  have K3 := Lib.hid k3
  have KB := Lib.hid kb
  clear k1 k2 k3 kb
  go_wp2_with fail
  go_loopw [6] (fun i wr => ∃ k : Nat, k ≤ 30 ∧ i = .int .i64 k ∧ Whole wr B 38 (qcells x 5).toArray ∧ Whole wr (B + 1) 38 (qcells (fun _ => 0) 5).toArray ∧ Whole wr (B + 1 + 1) 22 (byteCells (exF k) 32).toArray ∧ Below B w wr) (fun i _ => 30 - (intOf i).toNat)
  case atStart => exact ⟨0, by omega, rfl, K1.out, K2.out, K3.out, KB.out⟩
  case round =>
    obtain ⟨k, hk, rfl, q1, q2, q3, qb⟩ := hrel
    by_cases hlt : k < 30
    · obtain ⟨m, hm⟩ : ∃ m, m = 1 + k := ⟨_, rfl⟩
      have hm32 : m < 32 := by omega
      have c3 := q3.bytes m hm32
      rw [Nat.zero_add] at c3
      have f3 := q3.free m
      have HM := Lib.hid (show (1 : Int) + (k : Int) = (m : Int) by omega)
      have HN := Lib.hid (exF_next k hlt)
      rw [← hm] at HN
      have Q1 := Lib.hid q1
      have Q2 := Lib.hid q2
      have Q3 := Lib.hid q3
      have QB := Lib.hid qb
      clear q1 q2 q3 qb hm
      go_wp2_with (rw [HM.out])
      go_roundw
      case rel =>
        refine ⟨k + 1, by omega, by go_num, Q1.out.far (by simp; omega) _, Q2.out.far (by simp) _, ?_, QB.out.setCell (by simp; omega) _⟩
        have h := Q3.out.put m (.int .u8 (255 : Nat))
        rw [byteCells_set, HN.out] at h
        exact h
      case measure => simp [intOf]; omega
    · obtain rfl : k = 30 := by omega
      have Q1 := Lib.hid q1
      have Q2 := Lib.hid q2
      have Q3 := Lib.hid q3
      have QB := Lib.hid qb
      have HZ := Lib.hid (show ∀ f, (byteCells f 32).toArray.size = 32 from fun f => by rw [List.size_toArray, byteCells_length])
      clear q1 q2 q3 qb
      generalize exF 30 = E at Q3 HPW
      go_wp2_with (first | (refine wpList_load_row rfl 38 (.tmp 1) rfl B rfl 38 (qcells x 5).toArray (0, 0) _ Q1.out rfl rfl (by rw [qcells_size]; kernel_rfl) ?_) | (refine wpList_load_row rfl 22 (.tmp 3) rfl (B + 1 + 1) rfl 22 (byteCells E 32).toArray (0, 0) _ Q3.out rfl rfl (by rw [HZ.out]; kernel_rfl) ?_))
      refine (HPW.out _).mono ?_
      rintro e w1 ⟨rfl, hb⟩
      have R2 := Lib.hid (Q2.out.below hb Q2.out.lt)
      have RB := Lib.hid (QB.out.trans (hb.mono (by have := Q1.out.lt; omega)))
      clear hb
      go_wp2_with (refine wpList_store_row rfl 38 (.tmp 2) (.tmp 15) rfl (B + 1) (qcells L 5).toArray rfl rfl 38 _ R2.out (by rw [qcells_size]; kernel_rfl) (by rw [qcells_size, qcells_size]) (qcells_one _ _) ?_)
      have hret : Whole (w1.setRow (B + 1) (qcells L 5).toArray) (B + 1) 38 (qcells L 5).toArray := setRow_heap _ _ _ _ _ _ R2.out
      refine bodyPost_ret (results_cell_row rfl _ _ (B + 1) 38 _ (0, 0) _ rfl hret rfl rfl (by rw [qcells_size]; kernel_rfl)) rfl ?_
      exact ⟨rfl, by rw [hB]; exact below_setRow RB.out (by omega) _⟩

theorem over_any (a : Nat) (ha : a < P) (w : World) :
    Calls Try.prog 26 #[el a] w fun e w' => e = .returned (el (a ^ (P - 2) % P)) ∧ Below w.heap.size w w' := by
  have h := power_any a (exF 30) ha (exF_lt 30)
  rw [exF_all] at h
  generalize a ^ (P - 2) % P = r at h ⊢
  exact over_core (dg 2251799813685248 a) (el r) (dg 2251799813685248 r) rfl h w

end Field
end Go.Proofs.Ytnopjjkijedpeaa
