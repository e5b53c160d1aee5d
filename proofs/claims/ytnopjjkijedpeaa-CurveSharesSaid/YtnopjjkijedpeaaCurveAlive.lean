/- 'alive' of the statements of layer 6: the fixed calls come out as they must. -/
import Derived.Test.YtnopjjkijedpeaaCurveNum
namespace Go.Proofs.Ytnopjjkijedpeaa
namespace Curve
open Go.ChangeShapes Go.WideShapes Go.ChangeAt Go.RowKit
open Num Mem Words Radix FieldN Chacha Quiet Go.Proofs.Ytnopjjkijedpeaa.Field Edwards

theorem wpList_want {P : Program} {ops : Array Oper} {rest : List Oper} {o : Oper} {a : Act} {w : World} {Q : Exit → Act → World → Prop} (hw : Region.wanted o (yielded ops a.tmps) = true) (v : Value) (hr : (execOp a.eval o).run P w = .ok (.value v) w)
    (h : wpList P ops Q rest (a.put o.dst v) w) : wpList P ops Q (o :: rest) a w := by
  refine wpList_step fun K hK => ?_
  rw [if_pos hw]
  unfold Oper.wp
  rw [hr]
  exact hK _ _ h

theorem wpList_load_row_if {P : Program} {ops : Array Oper} {rest : List Oper} {o : Oper} {a : Act} {w : World} {Q : Exit → Act → World → Prop} (hw : Region.wanted o (yielded ops a.tmps) = true) (ty : TypeId) (x : Operand) (ho : o.op = .load ty x)
    (g : Nat) (hx : a.eval x = .pointer (some ⟨g, 0, none⟩)) (t : TypeId) (cs : List Value) (d : TypeDesc) (hg : Whole w g t cs.toArray)
    (hu : P.underlying ty = some d) (hd : d.isRow = true) (hi : (P.info? ty).map (·.size) = some cs.length)
    (h : wpList P ops Q rest (a.put o.dst (.agg cs.toArray)) w) : wpList P ops Q (o :: rest) a w :=
  wpList_step fun _ hK => by
    rw [if_pos hw]
    exact wp_load_mid ty x ho g 0 hx cs d (whole_range hg) hu hd hi (hK _ _ h)

theorem seven_built : Try.prog.built 22 [(0, .int .u8 7)] = some (byteCells (byteAt 7) 32).toArray := by kernel_rfl
theorem two_built : Try.prog.built 22 [(0, .int .u8 2)] = some (byteCells (byteAt 2) 32).toArray := by kernel_rfl
/-- the number of no secret -/
def topF (i : Nat) : Nat := if i = 31 then 64 else 0
theorem top_lt (i : Nat) : topF i < 256 := by
  unfold topF
  split <;> omega
theorem top_built : Try.prog.built 22 [(31, .int .u8 64)] = some (byteCells topF 32).toArray := by kernel_rfl
theorem cl_zero : ∀ i, i < 32 → clF (byteAt 0) i = topF i := by
  rw [byteAt_zero]
  intro i hi
  unfold clF topF
  by_cases e : i = 31
  · rw [if_pos e, if_pos e]
    rfl
  · rw [if_neg e, if_neg e]
    split <;> rfl
theorem same_low (a b : Nat) (ha : a < 8) (hb : b < 8) (u : Fin P) : mulN (byteAt a) u = mulN (byteAt b) u := by
  have e : sk (byteAt a) = sk (byteAt b) := by
    refine le_congr 32 fun i hi => ?_
    rw [Nat.zero_add]
    have big : ∀ (v j : Nat), v < 8 → 0 < j → byteAt v j = 0 := fun v j hv hj => by
      unfold byteAt
      have h1 : v < 256 ^ j := Nat.lt_of_lt_of_le (show v < 256 ^ 1 by omega) (Nat.pow_le_pow_right (by omega) hj)
      first
        | (rw [Nat.div_eq_of_lt h1])
        | (rw [Nat.div_eq_of_lt (by rw [Nat.pow_mul]; exact h1)])
    have low : ∀ v : Nat, v < 8 → byteAt v 0 - byteAt v 0 % 8 = 0 := fun v hv => by
      have : byteAt v 0 = v := by
        unfold byteAt
        simp
        omega
      rw [this, Nat.mod_eq_of_lt hv, Nat.sub_self]
    unfold clF
    by_cases e : i = 31
    · rw [if_pos e, if_pos e, big a 31 ha (by omega), big b 31 hb (by omega)]
    · rw [if_neg e, if_neg e]
      by_cases e2 : i = 0
      · rw [if_pos e2, if_pos e2, low a ha, low b hb]
      · rw [if_neg e2, if_neg e2, big a i ha (by omega), big b i hb (by omega)]
  unfold mulN
  rw [e]
theorem byteAt_ne (v : Nat) (h : v < P) (h0 : v ≠ 0) : ¬ ∀ i, i < 32 → byteAt v i = byteAt 0 i := by
  intro he
  have h1 := tk_byteAt h
  have h2 : tk (byteAt v) = tk (byteAt 0) := by
    unfold tk
    rw [le_congr (g := byteAt 0) (q := 0) 32 fun i hi => by rw [Nat.zero_add]; exact he i hi]
  rw [tk_byteAt P_pos, h1] at h2
  exact h0 h2

theorem wpList_none {ops : Array Oper} {rest : List Oper} {o : Oper} {a : Act} {w : World} {Q : Exit → Act → World → Prop} (hw : Region.wanted o (yielded ops a.tmps) = true) (ho : o.op = .build 22 #[]) (cs : Array Value) (hb : Try.prog.built 22 [] = some cs)
    (h : wpList Try.prog ops Q rest (a.put o.dst (.agg cs)) w) : wpList Try.prog ops Q (o :: rest) a w := wpList_want hw _ (run_built0 22 ho cs hb) h
theorem wpList_one {ops : Array Oper} {rest : List Oper} {o : Oper} {a : Act} {w : World} {Q : Exit → Act → World → Prop} (hw : Region.wanted o (yielded ops a.tmps) = true) (k : Nat) (x : Operand) (ho : o.op = .build 22 #[(k, x)]) (v : Value) (hx : a.eval x = v) (cs : Array Value) (hb : Try.prog.built 22 [(k, v)] = some cs)
    (h : wpList Try.prog ops Q rest (a.put o.dst (.agg cs)) w) : wpList Try.prog ops Q (o :: rest) a w := wpList_want hw _ (run_built1 22 k x ho v hx cs hb) h

/-- the values that come up -/
structure Vals (N0 N1 N2 N7 N9 C0 TF R M1 M2 M3 : Nat → Nat) : Prop where
  s : Gives 36 #[B32 N7, B32 N0] (.tuple #[B32 R, .int .i64 30])
  c : Gives 29 #[B32 N0] (B32 C0)
  m : Gives 30 #[B32 N1, B32 N9] (B32 M1)
  p : Gives 31 #[B32 N2] (B32 M2)
  q : Gives 31 #[B32 N0] (B32 M3)
  e1 : ∀ w, (Op.equalIn 10000 22 (.agg (byteCells C0 32).toArray) (.agg (byteCells TF 32).toArray)).run Try.prog w = .ok true w
  e2 : ∀ w, (Op.equalIn 10000 22 (.agg (byteCells M1 32).toArray) (.agg (byteCells M2 32).toArray)).run Try.prog w = .ok true w
  e3 : ∀ w, (Op.equalIn 10000 22 (.agg (byteCells M3 32).toArray) (.agg (byteCells N0 32).toArray)).run Try.prog w = .ok false w
  b0 : Try.prog.built 22 [] = some (byteCells N0 32).toArray
  b1 : Try.prog.built 22 [(0, .int .u8 1)] = some (byteCells N1 32).toArray
  b2 : Try.prog.built 22 [(0, .int .u8 2)] = some (byteCells N2 32).toArray
  b7 : Try.prog.built 22 [(0, .int .u8 7)] = some (byteCells N7 32).toArray
  b9 : Try.prog.built 22 [(0, .int .u8 9)] = some (byteCells N9 32).toArray
  bt : Try.prog.built 22 [(31, .int .u8 64)] = some (byteCells TF 32).toArray
theorem zero_gives : Gives 36 #[B32 (byteAt 7), B32 (byteAt 0)] (.tuple #[B32 (byteAt (mulN (byteAt 7) 0).val), .int .i64 30]) := by
  have h0 : tk (byteAt 0) = (0 : Fin P).val := by
    rw [byteAt_zero]
    exact tk_zero
  have h := shared_any (byteAt 7) (byteAt 0) (byteAt_lt 7) (byteAt_lt 0) 0 h0 true (by rw [mulN_zero]; exact ⟨fun _ => rfl, fun _ => rfl⟩)
  rw [if_pos rfl] at h
  exact h
theorem same_pub (i : Nat) : byteAt (mulN (byteAt 1) nine).val i = byteAt (mulN (byteAt 2) nine).val i := by rw [same_low 1 2 (by omega) (by omega)]
theorem vals : ∃ N0 N1 N2 N7 N9 C0 TF R M1 M2 M3, Vals N0 N1 N2 N7 N9 C0 TF R M1 M2 M3 :=
  ⟨_, _, _, _, _, _, _, _, _, _, _, zero_gives, clamp_any (byteAt 0) (byteAt_lt 0), mul_any (byteAt 1) (byteAt 9) (byteAt_lt 1) (byteAt_lt 9) nine (tk_byteAt (by have := P_big; omega)), public_any (byteAt 2) (byteAt_lt 2), public_any (byteAt 0) (byteAt_lt 0),
    eql32 (clF (byteAt 0)) topF (clF_lt (byteAt_lt 0)) top_lt true ⟨fun _ => cl_zero, fun _ => rfl⟩,
    eql32 _ _ (byteAt_lt _) (byteAt_lt _) true ⟨fun _ i _ => same_pub i, fun _ => rfl⟩,
    eql32 _ _ (byteAt_lt _) (byteAt_lt _) false ⟨fun e => absurd e Bool.false_ne_true, fun h => absurd h (byteAt_ne _ (mulN (byteAt 0) nine).isLt (fun e => mulN_nine (byteAt 0) (byteAt_lt 0) ((eq_zero _).2 e)))⟩,
    none_built, one_built, two_built, seven_built, nine_built, top_built⟩

set_option maxRecDepth 100000 in
set_option maxHeartbeats 4000000 in
theorem alive_six (w : World) : Calls Try.prog 32 #[] w fun e w' => e = .returned (.bool true) ∧ Below w.heap.size w w' := by
  obtain ⟨N0, N1, N2, N7, N9, C0, TF, R, M1, M2, M3, V⟩ := vals
  have CS := Lib.hid V.s
  have CC' := Lib.hid V.c
  have CM := Lib.hid V.m
  have CP := Lib.hid V.p
  have CQ := Lib.hid V.q
  have E1 := Lib.hid V.e1
  have E2 := Lib.hid V.e2
  have E3 := Lib.hid V.e3
  have HZ := Lib.hid (show ∀ f, (byteCells f 32).toArray.size = 32 from fun f => by rw [List.size_toArray, byteCells_length])
  have B0 := Lib.hid V.b0
  have B1 := Lib.hid V.b1
  have B2 := Lib.hid V.b2
  have B7 := Lib.hid V.b7
  have B9 := Lib.hid V.b9
  have BT := Lib.hid V.bt
  clear V
  go_enter Try.func32, Try.ntmps32
  go_upto_region 1 with fail
  go_wp2_with (first | (refine wpList_one (by rfl) 0 (.const (.int .u8 7)) rfl (.int .u8 7) rfl (byteCells N7 32).toArray B7.out ?_) | (refine wpList_none (by rfl) rfl (byteCells N0 32).toArray B0.out ?_))
  refine (CS.out _).mono ?_
  rintro e v ⟨rfl, hb⟩
  have KB := Lib.hid hb
  have hsz := hb.size
  clear hb
  go_upto_region 2 with (refine wpList_store_row rfl 22 (.tmp 1) (.tmp 7) rfl v.heap.size (byteCells R 32).toArray rfl rfl 22 _ (Whole.new _ _ _) (by rw [HZ.out]; kernel_rfl) (by rw [HZ.out]; rfl) (bytes_one _ _) ?_)
  refine cut_world (fun X => Below w.heap.size w X) (below_setRow (KB.out.alloc (by omega) _) (by omega) _) ?_
  generalize v.heap.size = b1
  clear KB hsz
  rintro X kb
  have KB := Lib.hid kb
  clear kb
  go_wp2_with (refine wpList_none (by rfl) rfl (byteCells N0 32).toArray B0.out ?_)
  refine (CC'.out _).mono ?_
  rintro e v1 ⟨rfl, hb⟩
  replace KB := Lib.hid (KB.out.trans (hb.mono KB.out.size))
  clear hb
  go_wp2_with (first | (refine wpList_one (by rfl) 31 (.const (.int .u8 64)) rfl (.int .u8 64) rfl (byteCells TF 32).toArray BT.out ?_) | (refine wpList_one (by rfl) 0 (.const (.int .u8 1)) rfl (.int .u8 1) rfl (byteCells N1 32).toArray B1.out ?_) | (refine wpList_one (by rfl) 0 (.const (.int .u8 9)) rfl (.int .u8 9) rfl (byteCells N9 32).toArray B9.out ?_) | simp only [E1.out, Result.andThen_ok])
  refine (CM.out _).mono ?_
  rintro e v2 ⟨rfl, hb⟩
  replace KB := Lib.hid (KB.out.trans (hb.mono KB.out.size))
  clear hb
  go_wp2_with (refine wpList_one (by rfl) 0 (.const (.int .u8 2)) rfl (.int .u8 2) rfl (byteCells N2 32).toArray B2.out ?_)
  refine (CP.out _).mono ?_
  rintro e v3 ⟨rfl, hb⟩
  replace KB := Lib.hid (KB.out.trans (hb.mono KB.out.size))
  clear hb
  go_wp2_with (first | (refine wpList_none (by rfl) rfl (byteCells N0 32).toArray B0.out ?_) | simp only [E2.out, Result.andThen_ok])
  refine (CQ.out _).mono ?_
  rintro e v4 ⟨rfl, hb⟩
  replace KB := Lib.hid (KB.out.trans (hb.mono KB.out.size))
  clear hb
  go_wp2_with (first | (refine wpList_none (by rfl) rfl (byteCells N0 32).toArray B0.out ?_) | simp only [E3.out, Result.andThen_ok])
  go_ret
  exact ⟨rfl, KB.out⟩

end Curve
end Go.Proofs.Ytnopjjkijedpeaa
