/- The document's own Clamp, Mul, Public and Shared (package aditref06). -/
import Derived.Test.YtnopjjkijedpeaaRefCurve
import Derived.Test.YtnopjjkijedpeaaCurveAlive
import Derived.Test.YtnopjjkijedpeaaCatB
import Derived.BigRegion
import Derived.RegionTactic
namespace Go.Proofs.Ytnopjjkijedpeaa
namespace RefC
open Go.ChangeShapes Go.WideShapes Go.ChangeAt Go.RowKit
open Num Mem Words Radix FieldN Chacha Quiet Go.Proofs.Ytnopjjkijedpeaa.Field Edwards Curve

theorem wpList_catS {P : Program} {ops : Array Oper} {rest : List Oper} {o : Oper} {a : Act} {Q : Exit → Act → World → Prop} {W w : World} {B c : Nat} {f g : Nat → Nat} (hgd : o.guard = none) (s x : Operand) (t e : TypeId) (z : Value) (by_ : Nat)
    (ht : P.underlying t = some (.slice e)) (hinfo : (P.info? e).map (fun i => (i.zero, i.size, i.bytes)) = some (some z, 1, by_)) (hz : z.cells.size = 1)
    (ho : o.op = .call { callee := .builtin .append, args := #[s, x], argTypes := #[t, t] })
    (hs : a.eval s = .slice none 0 c) (own : Own w B e none 0 c f) (bel : Below B W w) (hB : B ≤ w.heap.size)
    (m cx b off : Nat) (hx : a.eval x = .slice (some ⟨b, off, none⟩) m cx) (hy : ∀ i, i < m → w.cell? ⟨b, off + i, none⟩ = some (.int .u8 (g i : Nat))) (hk : (0 + m) * by_ ≤ 140737488355328) (hk2 : 0 + m ≤ 140737488355328)
    (h : ∀ A' c' w', Own w' B e A' m c' g → Below B W w' → B ≤ w'.heap.size → wpList P ops Q rest (a.put o.dst (.slice A' m c')) w') :
    wpList P ops Q (o :: rest) a w :=
  wpList_plain hgd fun K hK => wp_cat s x t e z by_ ht hinfo hz ho hs own bel hB ⟨b, off, none⟩ m cx hx (byteCells g m) (byteCells_length _ _) (rd_src hy) (bytes_each _ _) hk hk2 fun A' c' w' h1 h2 h3 _ _ => by
    rw [Nat.zero_add] at h1 ⊢
    exact hK _ _ (h A' c' w' (by
      rw [byteCells_append, Nat.zero_add, byteCells_congr (g := g) (fun i _ => by rw [if_neg (Nat.not_lt_zero i), Nat.sub_zero])] at h1
      exact h1) h2 h3)

set_option maxRecDepth 100000 in
set_option maxHeartbeats 4000000 in
theorem clamp_ref (A : Option Addr) (cp : Nat) (s : Nat → Nat) (w : World) (hs : ∀ i, s i < 256) (hr : Rd w A 32 s) :
    Calls Try.prog 33 #[.slice A 32 cp] w fun e w' => ∃ A2 c2, e = .returned (.slice A2 32 c2) ∧ Own w' w.heap.size 5 A2 32 c2 (clF s) ∧ Below w.heap.size w w' := by
  rcases hr with h0 | ⟨b, off, rfl, hblk, hcell⟩
  · omega
  have HC := Lib.hid hcell
  have HS := Lib.hid hs
  clear hcell hs
  go_enter Try.func33, Try.ntmps33
  go_upto_region 3 with (at_builtin; refine wpList_catS (W := w) (B := w.heap.size) (f := s) rfl _ _ 26 5 (.int .u8 0) 1 Try.underlying26 RefF.info_u8 rfl rfl rfl (Own.nil _ _ _ _) (Below.refl _ _) (Nat.le_refl _) 32 cp b off rfl HC.out (by omega) (by omega) ?_; intro A' c' w1 hown hbel hsz; have HO := Lib.hid hown; have HL := Lib.hid hbel; clear hown hbel)
  obtain ⟨g, rfl, hg1, hg2⟩ := owns_some HO.out (by omega : 0 < 32)
  have c0 : w1.cell? ⟨g, 0, none⟩ = some (.int .u8 (s 0 : Nat)) := by rw [World.ownsRow.cellAt HO.out 0 (by omega), byteCells_get _ _ _ (by omega)]
  have f0 := World.ownsRow.frozenAt HO.out 0
  have s0 := HS.out 0
  have s31 := HS.out 31
  generalize hx : s 0 = x at c0 s0
  have HX := Lib.hid hx
  clear hx
  have hx8 : (x : Int) - (x : Int) % 8 = ((x - x % 8 : Nat) : Int) := by omega
  have HX8 := Lib.hid hx8
  have HP0 := Lib.hid (RefF.own_put HO.out 0 (x - x % 8))
  have HL0 := Lib.hid (HL.out.setCell (p := ⟨g, 0, none⟩) hg1 (.int .u8 ((x - x % 8 : Nat) : Int)))
  clear hx8
  go_region
  rw [HX8.out]
  refine cut_post (F := Exit.then _ _) (fun Z => Own Z w.heap.size 5 (some ⟨g, 0, none⟩) 32 c' (fun i => if i = 0 then x - x % 8 else s i) ∧ Below w.heap.size w Z) ⟨HP0.out, Below.drew HL0.out⟩ ?_
  clear HP0 HL0 HO HL c0 f0
  rintro Z ⟨o1, l1⟩
  have c31 : Z.cell? ⟨g, 31, none⟩ = some (.int .u8 (s 31 : Nat)) := by rw [World.ownsRow.cellAt o1 31 (by omega), byteCells_get _ _ _ (by omega), if_neg (by omega)]
  have f31 := World.ownsRow.frozenAt o1 31
  generalize hy : s 31 = y at c31 s31
  have hy64 : (y : Int) % 64 + 64 = ((y % 64 + 64 : Nat) : Int) := by omega
  have HY64 := Lib.hid hy64
  have HRES := Lib.hid (show Own _ w.heap.size 5 (some ⟨g, 0, none⟩) 32 c' (clF s) from Own.congr (RefF.own_put o1 31 (y % 64 + 64)) fun i hi => by
    unfold clF
    rw [hy, HX.out])
  have HLR := Lib.hid (l1.setCell (p := ⟨g, 31, none⟩) hg1 (.int .u8 ((y % 64 + 64 : Nat) : Int)))
  clear o1 l1 hy hy64 HX HX8 s0
  go_upto_region 5 with fail
  rw [HY64.out]
  refine cut_world (fun Z => Own Z w.heap.size 5 (some ⟨g, 0, none⟩) 32 c' (clF s) ∧ Below w.heap.size w Z) ⟨HRES.out, HLR.out⟩ ?_
  clear HRES HLR c31 f31 HY64
  rintro Z2 ⟨o2, l2⟩
  have HOF := Lib.hid o2
  have HLF := Lib.hid l2
  clear o2 l2
  go_wp2_with fail
  go_ret
  exact ⟨some ⟨g, 0, none⟩, c', rfl, HOF.out, HLF.out⟩

/-- what the calls of the document's own tell: a new slice of 32 bytes -/
def TellsS (fn : FuncId) (args : Array Value) (w : World) (f : Nat → Nat) : Prop := Calls Try.prog fn args w fun e w' => ∃ A2 c2, e = .returned (.slice A2 32 c2) ∧ Own w' w.heap.size 5 A2 32 c2 f ∧ Below w.heap.size w w'
theorem mul_ref (A A' : Option Addr) (cp cp' : Nat) (s f : Nat → Nat) (w : World) (hs : ∀ i, s i < 256) (hf : ∀ i, f i < 256) (hr : Rd w A 32 s) (hr' : Rd w A' 32 f) (u : Fin P) (hu : tk f = u.val) : TellsS 34 #[.slice A 32 cp, .slice A' 32 cp'] w (byteAt (mulN s u).val) :=
  mul_core A A' cp cp' (clF s) f w (clF_lt hs) hf hr' u hu (clamp_ref A cp s w hs hr)

theorem run_mk32 (o : Oper) (a : Act) (w : World) (ho : o.op = .makeSlice 26 (.const (.int .i64 32)) (.const (.int .i64 32))) : (execOp a.eval o).run Try.prog w = .ok (.value (.slice (some ⟨w.heap.size, 0, none⟩) 32 32)) (w.alloc (.cells (byteCells (fun _ => 0) 32).toArray 5)) := by
  unfold execOp
  simp only [ho]
  kernel_rfl
theorem wpList_mk32 {ops : Array Oper} {rest : List Oper} {o : Oper} {a : Act} {w : World} {Q : Exit → Act → World → Prop} (hg : o.guard = none) (ho : o.op = .makeSlice 26 (.const (.int .i64 32)) (.const (.int .i64 32)))
    (h : wpList Try.prog ops Q rest (a.put o.dst (.slice (some ⟨w.heap.size, 0, none⟩) 32 32)) (w.alloc (.cells (byteCells (fun _ => 0) 32).toArray 5))) : wpList Try.prog ops Q (o :: rest) a w :=
  wpList_plain hg fun K hK => by
    unfold Oper.wp
    rw [run_mk32 o a w ho]
    exact hK _ _ h
theorem nine_bytes : byteCells (fun i => if i = 0 then 9 else 0) 32 = byteCells (byteAt 9) 32 := byteCells_congr (by decide)

set_option maxRecDepth 100000 in
set_option maxHeartbeats 4000000 in
theorem public_ref (A : Option Addr) (cp : Nat) (s : Nat → Nat) (w : World) (hs : ∀ i, s i < 256) (hr : Rd w A 32 s) : TellsS 35 #[.slice A 32 cp] w (byteAt (mulN s Curve.nine).val) := by
  have HM := Lib.hid (fun v h h' => mul_ref A (some ⟨w.heap.size, 0, none⟩) cp 32 s (byteAt 9) v hs (byteAt_lt 9) h h' Curve.nine (tk_byteAt (by have := P_big; omega)))
  generalize byteAt (mulN s Curve.nine).val = R at HM ⊢
  have HR := Lib.hid hr
  clear hs hr
  unfold TellsS
  go_enter Try.func35, Try.ntmps35
  go_upto_region 2 with (refine wpList_mk32 rfl rfl ?_)
  have f0 := (Whole.new w 5 (byteCells (fun _ => 0) 32).toArray).free 0
  have c0 := (Whole.new w 5 (byteCells (fun _ => 0) 32).toArray).bytes 0 (by omega)
  rw [Nat.zero_add] at c0
  have h := (Whole.new w 5 (byteCells (fun _ => 0) 32).toArray).put 0 (.int .u8 (9 : Nat))
  rw [byteCells_set, nine_bytes] at h
  have HW := Lib.hid h
  have HBL := Lib.hid ((below_alloc (Below.refl w.heap.size w) (.cells (byteCells (fun _ => 0) 32).toArray 5)).setCell (p := ⟨w.heap.size, 0, none⟩) (Nat.le_refl _) (.int .u8 (9 : Nat)))
  clear h
  generalize w.alloc (.cells (byteCells (fun _ => 0) 32).toArray 5) = v at f0 c0 HW HBL ⊢
  go_upto_region 3 with fail
  refine cut_world (fun Z => Whole Z w.heap.size 5 (byteCells (byteAt 9) 32).toArray ∧ Below w.heap.size w Z) ⟨HW.out, HBL.out⟩ ?_
  clear HW HBL f0 c0
  rintro Z ⟨k1, kb⟩
  have hm := HM.out Z (HR.out.below kb (Nat.le_refl _)) (Rd.of_whole k1)
  have HMM := Lib.hid hm
  have KB := Lib.hid kb
  clear k1 kb hm HM
  go_wp2_with fail
  refine HMM.out.mono ?_
  rintro e Z2 ⟨A2, c2, rfl, ho, hb⟩
  have HO := Lib.hid (ho.more KB.out.size)
  have HB := Lib.hid (below_trans KB.out hb)
  clear ho hb HMM
  go_wp2_with fail
  go_ret
  exact ⟨A2, c2, rfl, HO.out, HB.out⟩

set_option maxRecDepth 100000 in
set_option maxHeartbeats 4000000 in
theorem shared_ref (A A' : Option Addr) (cp cp' : Nat) (s f : Nat → Nat) (w : World) (hs : ∀ i, s i < 256) (hf : ∀ i, f i < 256) (hr : Rd w A 32 s) (hr' : Rd w A' 32 f) (u : Fin P) (hu : tk f = u.val) (z : Bool) (hz : z = true ↔ mulN s u = 0) :
    Calls Try.prog 37 #[.slice A 32 cp, .slice A' 32 cp'] w fun e w' => ∃ A2 c2, e = .returned (.tuple #[.slice A2 32 c2, .int .i64 (if z = true then 30 else 0)]) ∧ Own w' w.heap.size 5 A2 32 c2 (byteAt (mulN s u).val) ∧ Below w.heap.size w w' := by
  have HM := Lib.hid (mul_ref A A' cp cp' s f w hs hf hr hr' u hu)
  have hv := (mulN s u).isLt
  have HZ := Lib.hid (show z = true ↔ ∀ i, i < 32 → byteAt (mulN s u).val i = 0 from by
    rw [hz, eq_zero]
    constructor
    · intro h i _
      rw [h, byteAt_zero]
    · intro h
      have h1 := byteAt_ne _ hv
      refine Classical.byContradiction fun hne => h1 hne fun i hi => ?_
      rw [h i hi, byteAt_zero])
  have HLT := Lib.hid (byteAt_lt (mulN s u).val)
  generalize byteAt (mulN s u).val = R at HM HZ HLT ⊢
  clear hs hf hr hr' hu hz hv
  go_enter Try.func37, Try.ntmps37
  go_wp2_with fail
  refine HM.out.mono ?_
  rintro e v ⟨A2, c2, rfl, ho, hb⟩
  obtain ⟨g, rfl, hg1, hg2⟩ := owns_some ho (by omega : 0 < 32)
  have HC := Lib.hid (show ∀ i, i < 32 → v.cell? ⟨g, i, none⟩ = some (.int .u8 (R i : Nat)) from fun i hi => by rw [World.ownsRow.cellAt ho i (by omega), byteCells_get _ _ _ hi])
  have HO := Lib.hid ho
  have HB := Lib.hid hb
  clear ho hb HM
  go_wp2_with fail
  go_loopw [7] (fun i wr => ∃ k : Nat, k ≤ 32 ∧ i = .int .i64 k ∧ wr = v ∧ ∀ j, j < k → R j = 0) (fun i _ => 32 - (intOf i).toNat)
  case atStart => exact ⟨0, by omega, rfl, by first | rfl | trivial, fun j hj => by omega⟩
  case round =>
    obtain ⟨k, hk, rfl, rfl, hz⟩ := hrel
    have HZK := Lib.hid hz
    clear hz
    by_cases hlt : k < 32
    · have c1 := HC.out k hlt
      have hk32 : (k : Int) < 32 := by omega
      by_cases h0 : R k = 0
      · rw [h0] at c1
        go_wp2_with fail
        go_roundw
        case rel => exact ⟨k + 1, by omega, by go_num, by first | rfl | trivial, fun j hj => by
          by_cases e : j = k
          · rw [e]; exact h0
          · exact HZK.out j (by omega)⟩
        case measure => simp [intOf]; omega
      · have hzf : z = false := by
          cases z with
          | false => rfl
          | true => exact absurd ((HZ.out.1 rfl) k hlt) h0
        subst hzf
        have hne : ((R k : Nat) : Int) ≠ 0 := by omega
        have hne2 : (((R k : Nat) : Int) != 0) = true := by simpa using hne
        generalize R k = x at c1 hne hne2 h0
        go_wp2_with fail
        go_ret2
        exact ⟨some ⟨g, 0, none⟩, c2, rfl, HO.out, HB.out⟩
    · obtain rfl : k = 32 := by omega
      have hzt : z = true := HZ.out.2 HZK.out
      subst hzt
      rw [show ((32 : Nat) : Int) = 32 from rfl]
      go_wp2_with fail
      go_ret2
      exact ⟨some ⟨g, 0, none⟩, c2, rfl, HO.out, HB.out⟩

end RefC
end Go.Proofs.Ytnopjjkijedpeaa
