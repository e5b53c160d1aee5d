/- The document's own Before. -/
import Derived.Test.YtcpfchfhcfdcpaaCdRefE
namespace Go.Proofs.Ytcpfchfhcfdcpaa
namespace Tri
open Go.ChangeShapes Go.WideShapes Go.ChangeAt Go.RowKit
open Num Mem Words Chacha Aead Poly Quiet Ops Adr RowS

/-- the order of prefixes, of both kinds -/
def befB (s t : Bool) (u v : Bs) : Bool := if s = t then lt u v else !s
structure BeW (w : World) (B : Nat) (L M : List Value) (X : World) : Prop where
  a : Whole X B 29 L.toArray
  b : Whole X (B + 1) 29 M.toArray
  bel : Below B w X
theorem BeW.below {w : World} {B : Nat} {L M : List Value} {X Y : World} (h : BeW w B L M X) (hb : Below X.heap.size X Y) : BeW w B L M Y :=
  ⟨h.a.below hb h.a.lt, h.b.below hb h.b.lt, h.bel.trans (hb.mono (Nat.le_of_lt h.a.lt))⟩
set_option maxRecDepth 100000 in
set_option maxHeartbeats 4000000 in
theorem rBefore_any (s : Bool) (f : Nat → Nat) (hf : ∀ i, f i < 256) (m : Nat) (hp : rightPB s f (m : Int) = true) (t : Bool) (g : Nat → Nat) (hg : ∀ i, g i < 256) (n : Nat) (hq : rightPB t g (n : Int) = true) (w : World) :
    Calls Try.prog 40 #[.agg (prefL s f m).toArray, .agg (prefL t g n).toArray] w fun e w' => e = .returned (.bool (befB s t (bs f m) (bs g n))) ∧ Below w.heap.size w w' := by
  have HM := Lib.hid (show m ≤ 128 ∧ n ≤ 128 from by have h1 := (right_parts hp).2.2.1; have h2 := digits_le s; have h3 := (right_parts hq).2.2.1; have h4 := digits_le t; omega)
  have HBY := Lib.hid (fun (i : Nat) (hi : i < 16) (he : ∀ j, j < i → f j = g j) (hn : f i ≠ g i) => before_byte hf hg hp hq hi he hn)
  have HSA := Lib.hid (fun (he : ∀ j, j < 16 → f j = g j) => before_same HM.out.1 HM.out.2 he)
  have HFG := Lib.hid (And.intro hf hg)
  have HC := Lib.hid (show ∀ X b, Whole X b 29 (prefL s f m).toArray → X.cell? ⟨b, 0, none⟩ = some (.bool s) ∧ X.cell? ⟨b, 17, none⟩ = some (.int .i64 m) ∧ ∀ i, i < 16 → X.cell? ⟨b, 1 + i, none⟩ = some (.int .u8 (f i : Nat)) from fun X b h => ⟨by rw [h.cell, List.getElem?_toArray]; rfl, by rw [h.cell, List.getElem?_toArray]; exact pref_bits _ _ _, fun i hi => by rw [h.cell, List.getElem?_toArray]; exact pref_byte _ _ _ _ hi⟩)
  have HD := Lib.hid (show ∀ X b, Whole X b 29 (prefL t g n).toArray → X.cell? ⟨b, 0, none⟩ = some (.bool t) ∧ X.cell? ⟨b, 17, none⟩ = some (.int .i64 n) ∧ ∀ i, i < 16 → X.cell? ⟨b, 1 + i, none⟩ = some (.int .u8 (g i : Nat)) from fun X b h => ⟨by rw [h.cell, List.getElem?_toArray]; rfl, by rw [h.cell, List.getElem?_toArray]; exact pref_bits _ _ _, fun i hi => by rw [h.cell, List.getElem?_toArray]; exact pref_byte _ _ _ _ hi⟩)
  obtain ⟨L, hL⟩ : ∃ L, prefL s f m = L := ⟨_, rfl⟩
  obtain ⟨M, hM⟩ : ∃ L, prefL t g n = L := ⟨_, rfl⟩
  obtain ⟨R, hR⟩ : ∃ R, befB s t (bs f m) (bs g n) = R := ⟨_, rfl⟩
  rw [hL] at HC ⊢
  rw [hM] at HD ⊢
  rw [hR]
  have HR := Lib.hid hR
  clear hL hM hR hf hg hp hq
  go_enter Try.func40, Try.ntmps40
  go_upto_region 1 with fail
  refine cut_world (fun X => BeW w w.heap.size L M X) ⟨(Whole.new _ _ _).alloc _, whole_new _ _ (by simp), below_alloc (below_alloc (Below.refl _ _) _) _⟩ ?_
  intro W hW
  generalize hB : w.heap.size = B at hW ⊢
  have HB := Lib.hid hB
  have HW := Lib.hid hW
  clear hB hW
  have hc0 := (HC.out _ _ HW.out.a).1
  have hd0 := (HD.out _ _ HW.out.b).1
  by_cases hst : s = t
  · subst hst
    have HRE := Lib.hid (show lt (bs f m) (bs g n) = R from by rw [← HR.out]; unfold befB; rw [if_pos rfl])
    have hne : (s != s) = false := by simp
    go_wp2_with fail
    go_loopw [5] (fun i X => ∃ k : Nat, k ≤ 16 ∧ i = .int .i64 k ∧ BeW w B L M X ∧ ∀ j, j < k → f j = g j) (fun i _ => 16 - (intOf i).toNat)
    case atStart => exact ⟨0, Nat.zero_le _, rfl, HW.out, fun j hj => by omega⟩
    case round =>
      obtain ⟨k, hk, rfl, hX, he⟩ := hrel
      clear HW hc0 hd0
      have HW := Lib.hid hX
      clear hX
      have HE := Lib.hid he
      clear he
      by_cases hlt : k < 16
      · have H1 := Lib.hid (show ∀ X, Below wr.heap.size wr X → X.cell? ⟨B, 1 + k, none⟩ = some (.int .u8 (f k : Nat)) from fun X hx => (HC.out _ _ (HW.out.below hx).a).2.2 k hlt)
        have H2 := Lib.hid (show ∀ X, Below wr.heap.size wr X → X.cell? ⟨B + 1, 1 + k, none⟩ = some (.int .u8 (g k : Nat)) from fun X hx => (HD.out _ _ (HW.out.below hx).b).2.2 k hlt)
        have hx := HFG.out.1 k
        have hy := HFG.out.2 k
        have HBK := Lib.hid (fun hn => HBY.out k hlt HE.out hn)
        obtain ⟨x, hxe⟩ : ∃ x, f k = x := ⟨_, rfl⟩
        obtain ⟨y, hye⟩ : ∃ y, g k = y := ⟨_, rfl⟩
        have HXY := Lib.hid (And.intro hxe hye)
        rw [hxe] at H1 hx HBK
        rw [hye] at H2 hy HBK
        clear hxe hye
        go_upto_region 6 with fail
        refine q_start (by kernel_rfl) (by kernel_rfl) ?_
        refine Ops.wq_in ?_
        refine Ops.wq_take _ (by rfl) (fun X hx => by go_simp; try with_reducible rfl) ?_
        try simp only [Act.put, List.setIfInBounds_toArray, List.set_cons_zero, List.set_cons_succ]
        refine Ops.wq_take _ (by rfl) (fun X hx => by go_simp; try with_reducible rfl) ?_
        try simp only [Act.put, List.setIfInBounds_toArray, List.set_cons_zero, List.set_cons_succ]
        refine Ops.wq_take _ (by rfl) (fun X hx => by go_simp; try with_reducible rfl) ?_
        try simp only [Act.put, List.setIfInBounds_toArray, List.set_cons_zero, List.set_cons_succ]
        refine Ops.wq_take _ (by rfl) (fun X hx => by go_simp; try with_reducible rfl) ?_
        try simp only [Act.put, List.setIfInBounds_toArray, List.set_cons_zero, List.set_cons_succ]
        refine Ops.wq_take _ (by rfl) (fun X hx => by have cl := H1.out X hx; go_simp; try with_reducible rfl) ?_
        try simp only [Act.put, List.setIfInBounds_toArray, List.set_cons_zero, List.set_cons_succ]
        refine Ops.wq_take _ (by rfl) (fun X hx => by go_simp; try with_reducible rfl) ?_
        try simp only [Act.put, List.setIfInBounds_toArray, List.set_cons_zero, List.set_cons_succ]
        refine Ops.wq_take _ (by rfl) (fun X hx => by go_simp; try with_reducible rfl) ?_
        try simp only [Act.put, List.setIfInBounds_toArray, List.set_cons_zero, List.set_cons_succ]
        refine Ops.wq_take _ (by rfl) (fun X hx => by go_simp; try with_reducible rfl) ?_
        try simp only [Act.put, List.setIfInBounds_toArray, List.set_cons_zero, List.set_cons_succ]
        refine Ops.wq_take _ (by rfl) (fun X hx => by go_simp; try with_reducible rfl) ?_
        try simp only [Act.put, List.setIfInBounds_toArray, List.set_cons_zero, List.set_cons_succ]
        refine Ops.wq_take _ (by rfl) (fun X hx => by have cl := H2.out X hx; go_simp; try with_reducible rfl) ?_
        try simp only [Act.put, List.setIfInBounds_toArray, List.set_cons_zero, List.set_cons_succ]
        refine Ops.wq_take _ (by rfl) (fun X hx => by go_simp; try with_reducible rfl) ?_
        try simp only [Act.put, List.setIfInBounds_toArray, List.set_cons_zero, List.set_cons_succ]
        refine Ops.wq_end ?_
        intro w3 hb3
        have HW3 := Lib.hid (HW.out.below hb3)
        clear HW hb3 H1 H2
        by_cases hxy : x = y
        · have hq : (((x : Nat) : Int) != ((y : Nat) : Int)) = false := by simp; omega
          have HEQ := Lib.hid hxy
          clear hxy
          go_wp2_with fail
          go_round
          case rel =>
            refine ⟨k + 1, by omega, by go_num, HW3.out, fun j hj => ?_⟩
            by_cases e : j = k
            · rw [e, HXY.out.1, HXY.out.2]; exact HEQ.out
            · exact HE.out j (by omega)
          case measure => simp only [intOf]; omega
        · have hq : (((x : Nat) : Int) != ((y : Nat) : Int)) = true := by simp; omega
          have HBK2 := Lib.hid (HBK.out hxy)
          clear hxy
          have HW := HW3
          have H1 := Lib.hid (show ∀ X, Below w3.heap.size w3 X → X.cell? ⟨B, 1 + k, none⟩ = some (.int .u8 (x : Nat)) from fun X hx => HXY.out.1 ▸ (HC.out _ _ (HW3.out.below hx).a).2.2 k hlt)
          have H2 := Lib.hid (show ∀ X, Below w3.heap.size w3 X → X.cell? ⟨B + 1, 1 + k, none⟩ = some (.int .u8 (y : Nat)) from fun X hx => HXY.out.2 ▸ (HD.out _ _ (HW3.out.below hx).b).2.2 k hlt)
          go_upto_region 7 with fail
          refine q_start (by kernel_rfl) (by kernel_rfl) ?_
          refine Ops.wq_in ?_
          refine Ops.wq_take _ (by rfl) (fun X hx => by go_simp; try with_reducible rfl) ?_
          try simp only [Act.put, List.setIfInBounds_toArray, List.set_cons_zero, List.set_cons_succ]
          refine Ops.wq_take _ (by rfl) (fun X hx => by go_simp; try with_reducible rfl) ?_
          try simp only [Act.put, List.setIfInBounds_toArray, List.set_cons_zero, List.set_cons_succ]
          refine Ops.wq_take _ (by rfl) (fun X hx => by go_simp; try with_reducible rfl) ?_
          try simp only [Act.put, List.setIfInBounds_toArray, List.set_cons_zero, List.set_cons_succ]
          refine Ops.wq_take _ (by rfl) (fun X hx => by go_simp; try with_reducible rfl) ?_
          try simp only [Act.put, List.setIfInBounds_toArray, List.set_cons_zero, List.set_cons_succ]
          refine Ops.wq_take _ (by rfl) (fun X hx => by have cl := H1.out X hx; go_simp; try with_reducible rfl) ?_
          try simp only [Act.put, List.setIfInBounds_toArray, List.set_cons_zero, List.set_cons_succ]
          refine Ops.wq_take _ (by rfl) (fun X hx => by go_simp; try with_reducible rfl) ?_
          try simp only [Act.put, List.setIfInBounds_toArray, List.set_cons_zero, List.set_cons_succ]
          refine Ops.wq_take _ (by rfl) (fun X hx => by go_simp; try with_reducible rfl) ?_
          try simp only [Act.put, List.setIfInBounds_toArray, List.set_cons_zero, List.set_cons_succ]
          refine Ops.wq_take _ (by rfl) (fun X hx => by go_simp; try with_reducible rfl) ?_
          try simp only [Act.put, List.setIfInBounds_toArray, List.set_cons_zero, List.set_cons_succ]
          refine Ops.wq_take _ (by rfl) (fun X hx => by go_simp; try with_reducible rfl) ?_
          try simp only [Act.put, List.setIfInBounds_toArray, List.set_cons_zero, List.set_cons_succ]
          refine Ops.wq_take _ (by rfl) (fun X hx => by have cl := H2.out X hx; go_simp; try with_reducible rfl) ?_
          try simp only [Act.put, List.setIfInBounds_toArray, List.set_cons_zero, List.set_cons_succ]
          refine Ops.wq_take _ (by rfl) (fun X hx => by go_simp; try with_reducible rfl) ?_
          try simp only [Act.put, List.setIfInBounds_toArray, List.set_cons_zero, List.set_cons_succ]
          refine Ops.wq_take _ (by rfl) (fun X hx => by go_simp; try with_reducible rfl) ?_
          try simp only [Act.put, List.setIfInBounds_toArray, List.set_cons_zero, List.set_cons_succ]
          refine Ops.wq_end ?_
          intro w4 hb4
          have HW4 := Lib.hid (HW3.out.below hb4)
          go_wp2_with fail
          go_ret
          refine ⟨?_, by rw [HB.out]; exact HW4.out.bel⟩
          rw [← HRE.out, HBK2.out]
          simp
      · obtain rfl : k = 16 := by omega
        have hc17 := (HC.out _ _ HW.out.a).2.1
        have hd17 := (HD.out _ _ HW.out.b).2.1
        go_wp2_with fail
        go_ret
        refine ⟨?_, by rw [HB.out]; exact HW.out.bel⟩
        rw [← HRE.out, HSA.out HE.out]
        simp
  · have hcs : (s = true ∧ t = false) ∨ (s = false ∧ t = true) := by cases s <;> cases t <;> simp_all
    clear hst
    rcases hcs with ⟨rfl, rfl⟩ | ⟨rfl, rfl⟩
    ·
      have HRE := HR
      go_wp2_with fail
      go_ret
      exact ⟨by rw [← HRE.out]; rfl, by rw [HB.out]; exact HW.out.bel⟩
    ·
      have HRE := HR
      go_wp2_with fail
      go_ret
      exact ⟨by rw [← HRE.out]; rfl, by rw [HB.out]; exact HW.out.bel⟩
end Tri
end Go.Proofs.Ytcpfchfhcfdcpaa
