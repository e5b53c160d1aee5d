/- The document's own answers of layer 5 (package aditref05): Invert. -/
import Derived.Test.YtnopjjkijedpeaaRefPower
namespace Go.Proofs.Ytnopjjkijedpeaa
namespace RefF
open Go.ChangeShapes Go.WideShapes Go.ChangeAt Go.RowKit
open Num Mem Words Radix FieldN Chacha Quiet

theorem byteCells_put (f : Nat → Nat) (n j v : Nat) : (byteCells f n).set j (.int .u8 (v : Nat)) = byteCells (fun i => if i = j then v else f i) n := by
  have h := byteCells_set f n j v
  rw [List.setIfInBounds_toArray] at h
  exact List.toArray_inj h
theorem own_put {w : World} {B b n c : Nat} {f : Nat → Nat} (h : Own w B 5 (some ⟨b, 0, none⟩) n c f) (i v : Nat) : Own (w.setCell ⟨b, i, none⟩ (.int .u8 (v : Nat))) B 5 (some ⟨b, 0, none⟩) n c (fun j => if j = i then v else f j) := by
  have k := World.ownsRow.stored h i (.int .u8 (v : Nat))
  unfold Own
  rw [← byteCells_put]
  exact k.1

/-- 'append(out, x)' of one byte onto a row of the call's own -/
theorem wpList_pushB {ops : Array Oper} {rest : List Oper} {o : Oper} {a : Act} {Q : Exit → Act → World → Prop} {W w : World} {B k c : Nat} {A : Option Addr} {f : Nat → Nat} {b : Int} (hgd : o.guard = none) (s x : Operand)
    (ho : o.op = .call { callee := .builtin .append, args := #[s, x], argTypes := #[26, 26] })
    (hs : a.eval s = .slice A k c) (hx : a.eval x = .slice (some ⟨w.heap.size, 0, none⟩) 1 1)
    (own : Own w B 5 A k c f) (bel : Below B W w) (hB : B ≤ w.heap.size) (hb : b = (f k : Nat)) (hk : k < 1000000)
    (h : ∀ A' c' w', Own w' B 5 A' (k + 1) c' f → Below B W w' → B ≤ w'.heap.size → wpList Try.prog ops Q rest (a.put o.dst (.slice A' (k + 1) c')) w') :
    wpList Try.prog ops Q (o :: rest) a (w.alloc (.cells #[.int .u8 b] 5)) := by
  refine wpList_cat (W := W) (w := w.alloc (.cells #[.int .u8 b] 5)) (B := B) (xs := byteCells f k) hgd s x 26 5 (.int .u8 0) 1 Try.underlying26 info_u8 rfl ho hs (World.ownsRow.alloc own _) (bel.alloc hB _) (by simp; omega) ⟨w.heap.size, 0, none⟩ 1 1 hx [.int .u8 b] rfl (fun j u hj => ?_) (fun u hu => by simp at hu; subst hu; rfl) (by omega) (by omega) ?_
  · rcases j with _ | j
    · simp at hj
      subst hj
      exact (Whole.new w _ #[.int .u8 b]).cell 0
    · simp at hj
  · intro A' c' w' h1 h2 h3 _
    refine h A' c' w' ?_ h2 h3
    unfold Own
    rw [byteCells_snoc, ← hb]
    exact h1

/-- the exponent's bytes -/
def exR (i : Nat) : Nat := if i = 31 then 127 else if i = 0 then 235 else 255
theorem exR_lt (i : Nat) : exR i < 256 := by
  unfold exR
  split
  · omega
  · split <;> omega
theorem exR_all : le exR 0 32 = P - 2 := by unfold P; decide

set_option maxRecDepth 100000 in
theorem invert_core (a : Nat) (E : Nat → Nat) (hE : ∀ i, i < 32 → E i = exR i) (x : Nat → Nat)
    (hp : ∀ w A c, Rd w A 32 E → Calls Try.prog 48 #[.agg (icells x 16).toArray, .slice A 32 c] w fun e w' => ∃ v, v < M256 ∧ v % P = a ∧ e = .returned (nv v) ∧ Below w.heap.size w w') (w : World) :
    Calls Try.prog 27 #[.agg (icells x 16).toArray] w fun e w' => ∃ v, v < M256 ∧ v % P = a ∧ e = .returned (nv v) ∧ Below w.heap.size w w' := by
  have HP := Lib.hid hp
  have HE := Lib.hid hE
  clear hp hE
  rw [icells_lit16 x]
  go_enter Try.func27, Try.ntmps27
  go_upto_region 1 with fail
  rw [← icells_lit16 x]
  refine cut_world (fun W => Whole W w.heap.size 24 (icells x 16).toArray ∧ Whole W (w.heap.size + 1) 24 (icells (fun _ => 0) 16).toArray ∧ Below w.heap.size w W) ⟨?_, ?_, ?_⟩ ?_
  · exact (whole_new _ _ rfl).alloc _
  · rw [icells_lit16 fun _ => 0]
    exact whole_new _ _ (by simp)
  · exact below_alloc (below_alloc (Below.refl _ _) _) _
  rintro W ⟨k1, k2, kb⟩
  have K1 := Lib.hid k1
  have K2 := Lib.hid k2
  have KB := Lib.hid kb
  have hw2 := k2.lt
  clear k1 k2 kb
  generalize hB : w.heap.size = B at K1 K2 KB hw2 ⊢
  go_wp2_with fail
  go_loopw [3, 4] (fun o i wr => ∃ (k : Nat) (A : Option Addr) (c : Nat), k ≤ 32 ∧ i = .int .i64 k ∧ o = .slice A k c ∧ Own wr (B + 1 + 1) 5 A k c (fun _ => 255) ∧ Below (B + 1 + 1) W wr ∧ B + 1 + 1 ≤ wr.heap.size) (fun _ i _ => 32 - (intOf i).toNat)
  case atStart => exact ⟨0, none, 0, by omega, rfl, rfl, Own.nil _ _ _ _, Below.refl _ _, hw2⟩
  case round =>
    obtain ⟨k, A, c, hk, rfl, rfl, ho, hbl, hsz⟩ := hrel
    have HO := Lib.hid ho
    have HL := Lib.hid hbl
    clear ho hbl
    by_cases hlt : k < 32
    · go_wp2_with (at_builtin; refine wpList_pushB (W := W) rfl _ _ rfl rfl rfl HO.out HL.out hsz rfl (by omega) ?_; intro A2 c2' w1 hown1 hbel1 hsz1; have HO1 := Lib.hid hown1; have HL1 := Lib.hid hbel1; clear hown1 hbel1)
      go_roundw
      case rel => exact ⟨k + 1, A2, c2', by omega, by go_num, rfl, HO1.out, HL1.out, by omega⟩
      case measure => simp [intOf]; omega
    · obtain rfl : k = 32 := by omega
      obtain ⟨g, rfl, hg1, hg2⟩ := owns_some HO.out (by omega)
      have c0 : wr.cell? ⟨g, 0, none⟩ = some (.int .u8 (255 : Nat)) := by rw [World.ownsRow.cellAt HO.out 0 (by omega), byteCells_get _ _ _ (by omega)]
      have c1 : wr.cell? ⟨g, 31, none⟩ = some (.int .u8 (255 : Nat)) := by rw [World.ownsRow.cellAt HO.out 31 (by omega), byteCells_get _ _ _ (by omega)]
      have f0 := World.ownsRow.frozenAt HO.out 0
      have f1 := World.ownsRow.frozenAt HO.out 31
      have h := own_put (own_put HO.out 0 235) 31 127
      have HR := Lib.hid (show Rd _ (some ⟨g, 0, none⟩) 32 E from (Own.congr h fun i hi => by
        rw [HE.out i hi]
        rfl).rd)
      have HBL := Lib.hid ((HL.out.setCell (p := ⟨g, 0, none⟩) hg1 (.int .u8 (235 : Nat))).setCell (p := ⟨g, 31, none⟩) hg1 (.int .u8 (127 : Nat)))
      clear h
      go_upto_region 7 with fail
      refine cut_world (fun Y => Rd Y (some ⟨g, 0, none⟩) 32 E ∧ Below (B + 1 + 1) W Y ∧ B + 1 + 1 ≤ Y.heap.size) ⟨HR.out, HBL.out, by simpa using hsz⟩ ?_
      rintro Y ⟨r1, r2, r3⟩
      have R1 := Lib.hid r1
      have R2 := Lib.hid r2
      have N1 := Lib.hid (K1.out.below r2 (by omega))
      have N2 := Lib.hid (K2.out.below r2 (by omega))
      have NB := Lib.hid (KB.out.trans (r2.mono (by omega)))
      clear r1 r2 HR HBL c0 c1 f0 f1
      go_wp2_with (refine wpList_load_row rfl 24 (.tmp 1) rfl B rfl 24 (icells x 16).toArray (0, 0) _ N1.out rfl rfl (by rw [icells_size]; kernel_rfl) ?_)
      refine (HP.out _ _ _ R1.out).mono ?_
      rintro e w5 ⟨v, hv1, hv2, rfl, hb⟩
      have M2 := Lib.hid (N2.out.below hb N2.out.lt)
      have MB := Lib.hid (NB.out.trans (hb.mono (by omega)))
      have HV1 := Lib.hid hv1
      have HV2 := Lib.hid hv2
      clear hb hv1 hv2
      rw [nv]
      generalize hL : dg 65536 v = L
      have HLL := Lib.hid hL
      clear hL
      go_wp2_with (refine wpList_store_row rfl 24 (.tmp 2) (.tmp 18) rfl (B + 1) (icells L 16).toArray rfl rfl 24 _ M2.out (by rw [icells_size]; kernel_rfl) (by rw [icells_size, icells_size]) (icells_one _ _) ?_)
      have hret : Whole (w5.setRow (B + 1) (icells L 16).toArray) (B + 1) 24 (icells L 16).toArray := setRow_heap _ _ _ _ _ _ M2.out
      refine bodyPost_ret (results_cell_row rfl _ _ (B + 1) 24 _ (0, 0) _ rfl hret rfl rfl (by rw [icells_size]; kernel_rfl)) rfl ?_
      exact ⟨v, HV1.out, HV2.out, by rw [nv, HLL.out], by rw [hB]; exact below_setRow MB.out (by omega) _⟩

theorem invert_any (a : Nat) (ha : a < M256) (w : World) :
    Calls Try.prog 27 #[nv a] w fun e w' => ∃ v, v < M256 ∧ v % P = a ^ (P - 2) % P ∧ e = .returned (nv v) ∧ Below w.heap.size w w' := by
  have h := fun w A c => power_any a ha A c exR exR_lt w
  rw [exR_all] at h
  generalize a ^ (P - 2) % P = r at h ⊢
  exact invert_core r exR (fun i _ => rfl) (dg 65536 a) h w

end RefF
end Go.Proofs.Ytnopjjkijedpeaa
