/- The call Zero of package field; '==' on arrays of bytes. -/
import Derived.Test.YtnopjjkijedpeaaFieldAll
import Derived.Test.YtnopjjkijedpeaaQuietB
import Derived.Stop.BytesEq
import Derived.Laws.StructEq
namespace Go.Proofs.Ytnopjjkijedpeaa
namespace Field
open Go.ChangeShapes Go.WideShapes Go.ChangeAt Go.RowKit
open Num Mem Words Radix FieldN Chacha Quiet
open Extern.Stop (cell)

theorem byteCells_cell (f : Nat → Nat) (hf : ∀ i, f i < 256) (n : Nat) : byteCells f n = ((List.range n).map fun i => UInt8.ofNat (f i)).map cell := by
  unfold byteCells
  rw [List.map_map]
  refine List.map_congr_left fun i _ => ?_
  have := hf i
  simp only [Function.comp_apply, cell]
  congr 1
  rw [UInt8.toNat_ofNat', Nat.mod_eq_of_lt this]
  rfl

/-- '==' of two arrays of bytes -/
theorem run_eql_arr {P : Program} (t e : TypeId) (n : Nat) (ht : P.underlying t = some (.array n e)) (he : P.underlying e = some (.int .u8)) (hsz : ∀ w, (sizeOf e).run P w = .ok 1 w)
    (f g : Nat → Nat) (hf : ∀ i, f i < 256) (hg : ∀ i, g i < 256) (r : Bool) (hr : r = true ↔ ∀ i, i < n → f i = g i) (w : World) :
    (Op.equalIn 10000 t (.agg (byteCells f n).toArray) (.agg (byteCells g n).toArray)).run P w = .ok r w := by
  rw [byteCells_cell f hf, byteCells_cell g hg, run_equalIn_bytes w 9998 t e n ht he hsz _ _ (by simp) (by simp)]
  congr 1
  rw [Bool.eq_iff_iff, hr, beq_iff_eq]
  constructor
  · intro h i hi
    have h3 := congrArg (fun l : List UInt8 => l[i]?) h
    simp only [List.getElem?_map, List.getElem?_range hi, Option.map_some, Option.some.injEq] at h3
    have h4 := congrArg UInt8.toNat h3
    simp only [UInt8.toNat_ofNat'] at h4
    have := hf i
    have := hg i
    omega
  · intro h
    exact List.map_congr_left fun i hi => by rw [h i (List.mem_range.1 hi)]

theorem size_u8 (w : World) : (sizeOf 5).run Try.prog w = .ok 1 w := by kernel_rfl

theorem eql32 (f g : Nat → Nat) (hf : ∀ i, f i < 256) (hg : ∀ i, g i < 256) (r : Bool) (hr : r = true ↔ ∀ i, i < 32 → f i = g i) (w : World) :
    (Op.equalIn 10000 22 (.agg (byteCells f 32).toArray) (.agg (byteCells g 32).toArray)).run Try.prog w = .ok r w :=
  run_eql_arr (P := Try.prog) 22 5 32 Try.underlying22 Try.underlying5 size_u8 f g hf hg r hr w

/-- '==' of two arrays of numbers of 64 digits -/
theorem run_eql_nums {P : Program} (d : Nat) (t e : TypeId) (n : Nat) (ht : P.underlying t = some (.array n e)) (he : P.underlying e = some (.int .u64)) (hsz : ∀ w, (sizeOf e).run P w = .ok 1 w) (f g : Nat → Nat) (w : World) :
    (Op.equalIn (d + 2) t (.agg (qcells f n).toArray) (.agg (qcells g n).toArray)).run P w = .ok ((List.range n).all fun i => f i == g i) w := by
  rw [List.range_eq_range', Op.equalIn]
  simp only [Sem.run_bind, run_underlying ht, Result.andThen_ok, hsz, Std.Legacy.Range.forIn_eq_forIn_range', Std.Legacy.Range.size, Nat.sub_zero, Nat.add_sub_cancel, Nat.div_one]
  have hl : ∀ i ∈ List.range' 0 n 1, i < n := fun i hi => by simpa using (List.mem_range'_1.1 hi).2
  generalize List.range' 0 n 1 = l at hl ⊢
  induction l with
  | nil => simp
  | cons i l ih =>
    have hi : i < n := hl i (by simp)
    have px : (part e (qcells f n).toArray (i * 1)).run P w = .ok (.int .u64 (f i : Nat)) w := by
      simp [part, isAgg, run_underlying he, qcells, hi]
    have py : (part e (qcells g n).toArray (i * 1)).run P w = .ok (.int .u64 (g i : Nat)) w := by
      simp [part, isAgg, run_underlying he, qcells, hi]
    have pe : (Op.equalIn (d + 1) e (.int .u64 (f i : Nat)) (.int .u64 (g i : Nat))).run P w = .ok (f i == g i) w := by
      rw [run_equalIn_int w d e .u64 .u64 _ _ he]
      congr 1
      rw [Bool.eq_iff_iff]
      simp
      omega
    simp only [List.forIn_cons, Sem.run_bind, px, py, pe, Result.andThen_ok, List.all_cons]
    cases hb : (f i == g i)
    · simp
    · simp only [Bool.not_true, Bool.false_eq_true, if_false, Sem.run_pure, Result.andThen_ok, Bool.true_and]
      exact ih fun j hj => hl j (by simp [hj])

theorem size_u64 (w : World) : (sizeOf 35).run Try.prog w = .ok 1 w := by kernel_rfl

theorem no_limbs (v : Nat) (hv : v < T) (r : Bool) (hr : r = true ↔ v = 0) : ((List.range 5).all fun i => dg 2251799813685248 v i == (fun _ => 0) i) = r := by
  rw [Bool.eq_iff_iff, hr, List.all_eq_true]
  constructor
  · intro h
    have h1 := rv_limbs v hv
    rw [rv_congr (b := fun _ => 0) 5 (fun i hi => by
      have := h i (List.mem_range.2 hi)
      simpa using this)] at h1
    rw [← h1]
    simp [rv]
  · rintro rfl i _
    simp [dg]

theorem eql_none (v : Nat) (hv : v < T) (r : Bool) (hr : r = true ↔ v = 0) (w : World) :
    (Op.equalIn 9999 36 (.agg (qcells (dg 2251799813685248 v) 5).toArray) (.agg #[.int .u64 0, .int .u64 0, .int .u64 0, .int .u64 0, .int .u64 0])).run Try.prog w = .ok r w := by
  have h := run_eql_nums (P := Try.prog) 9997 36 35 5 Try.underlying36 Try.underlying35 size_u64 (dg 2251799813685248 v) (fun _ => 0) w
  rw [no_limbs v hv r hr] at h
  exact h

theorem zero_core (f x : Nat → Nat) (r : Bool) (ht : ∀ w, Calls Try.prog 19 #[.agg (byteCells f 32).toArray] w fun e w' => e = .returned (.agg (qcells x 5).toArray) ∧ Below w.heap.size w w')
    (he : ∀ w, (Op.equalIn 9999 36 (.agg (qcells x 5).toArray) (.agg #[.int .u64 0, .int .u64 0, .int .u64 0, .int .u64 0, .int .u64 0])).run Try.prog w = .ok r w) (w : World) :
    Calls Try.prog 18 #[.agg (byteCells f 32).toArray] w fun e w' => e = .returned (.bool r) ∧ Below w.heap.size w w' := by
  have HTK := Lib.hid ht
  rw [qcells_lit5] at he
  have E := Lib.hid he
  clear ht he
  rw [byteCells_lit32 f]
  go_enter Try.func18, Try.ntmps18
  go_upto_region 1 with fail
  rw [← byteCells_lit32 f]
  refine cut_world (fun W => Whole W w.heap.size 22 (byteCells f 32).toArray ∧ Below w.heap.size w W) ⟨?_, ?_⟩ ?_
  · exact whole_new _ _ rfl
  · exact below_alloc (Below.refl _ _) _
  rintro W ⟨k1, kb⟩
  have K1 := Lib.hid k1
  have KB := Lib.hid kb
  clear k1 kb
  generalize hB : w.heap.size = B at K1 KB ⊢
  go_wp2_with (refine wpList_load_row rfl 22 (.tmp 1) rfl B rfl 22 (byteCells f 32).toArray (0, 0) _ K1.out rfl rfl (by rw [List.size_toArray, byteCells_length]; kernel_rfl) ?_)
  refine (HTK.out _).mono ?_
  rintro e w1 ⟨rfl, hb⟩
  have RB := Lib.hid (KB.out.trans (hb.mono (by have := K1.out.lt; omega)))
  clear hb
  rw [qcells_lit5]
  cases r
  all_goals
    go_wp2_with (simp only [E.out, Result.andThen_ok])
    go_ret
    exact ⟨rfl, by rw [hB]; exact RB.out⟩

theorem zeroB_any (f : Nat → Nat) (hf : ∀ i, f i < 256) (r : Bool) (hr : r = true ↔ tk f = 0) (w : World) :
    Calls Try.prog 18 #[.agg (byteCells f 32).toArray] w fun e w' => e = .returned (.bool r) ∧ Below w.heap.size w w' :=
  zero_core f (dg 2251799813685248 (tk f)) r (take_any f hf) (eql_none (tk f) (below_T (tk_lt f)) r hr) w

end Field
end Go.Proofs.Ytnopjjkijedpeaa
