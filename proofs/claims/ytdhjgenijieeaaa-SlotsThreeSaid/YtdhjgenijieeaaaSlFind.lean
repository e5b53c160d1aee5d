/- Package slots: find, Expire. -/
import Derived.Test.YtdhjgenijieeaaaSlTidy
import Derived.WalkMore
namespace Go.Proofs.Ytdhjgenijieeaaa
namespace Sl
open Go.ChangeShapes Go.WideShapes Go.ChangeAt Go.RowKit
open Num Mem Words Chacha Aead Poly Ops Quiet WinT Win Pr

def findO (x : SS) (l : Nat) : Option Nat :=
  if x.hc = true ∧ x.c.l = l then some 75 else if x.hn = true ∧ x.n.l = l then some 147 else if x.hp = true ∧ x.p.l = l then some 3 else none
def ptrO (B : Nat) : Option Nat → Value
  | none => .pointer none
  | some o => .pointer (some ⟨B, o, none⟩)
structure FdW (w : World) (B : Nat) (x : SS) (X : World) : Prop where
  arg : Whole X B 36 (slL x).toArray
  bel : Below w.heap.size w X
theorem FdW.below {w : World} {B : Nat} {x : SS} {X Y : World} (h : FdW w B x X) (hb : Below X.heap.size X Y) : FdW w B x Y :=
  ⟨h.arg.below hb h.arg.lt, h.bel.trans (hb.mono h.bel.size)⟩
theorem loc_p {w : World} {B : Nat} {T : TypeId} {x : SS} (h : Whole w B T (slL x).toArray) : w.cell? ⟨B, 67, none⟩ = some (.int .u32 (x.p.l : Nat)) := at_p h 64 _ (by have := pair_tail x.p 0; rw [List.getElem?_toArray] at this; exact this)
theorem loc_c {w : World} {B : Nat} {T : TypeId} {x : SS} (h : Whole w B T (slL x).toArray) : w.cell? ⟨B, 139, none⟩ = some (.int .u32 (x.c.l : Nat)) := at_c h 64 _ (by have := pair_tail x.c 0; rw [List.getElem?_toArray] at this; exact this)
theorem loc_n {w : World} {B : Nat} {T : TypeId} {x : SS} (h : Whole w B T (slL x).toArray) : w.cell? ⟨B, 211, none⟩ = some (.int .u32 (x.n.l : Nat)) := at_n h 64 _ (by have := pair_tail x.n 0; rw [List.getElem?_toArray] at this; exact this)
theorem find_c {x : SS} {l : Nat} (h : x.hc = true) (h2 : x.c.l = l) : findO x l = some 75 := by unfold findO; rw [if_pos ⟨h, h2⟩]
theorem find_n {x : SS} {l : Nat} (h0 : ¬ (x.hc = true ∧ x.c.l = l)) (h : x.hn = true) (h2 : x.n.l = l) : findO x l = some 147 := by unfold findO; rw [if_neg h0, if_pos ⟨h, h2⟩]
theorem find_p {x : SS} {l : Nat} (h0 : ¬ (x.hc = true ∧ x.c.l = l)) (h1 : ¬ (x.hn = true ∧ x.n.l = l)) (h : x.hp = true) (h2 : x.p.l = l) : findO x l = some 3 := by unfold findO; rw [if_neg h0, if_neg h1, if_pos ⟨h, h2⟩]
theorem find_no {x : SS} {l : Nat} (h0 : ¬ (x.hc = true ∧ x.c.l = l)) (h1 : ¬ (x.hn = true ∧ x.n.l = l)) (h : ¬ (x.hp = true ∧ x.p.l = l)) : findO x l = none := by unfold findO; rw [if_neg h0, if_neg h1, if_neg h]
set_option maxRecDepth 100000 in
set_option maxHeartbeats 8000000 in
theorem find_any {w : World} {B : Nat} {x : SS} (h : Whole w B 36 (slL x).toArray) (l : Nat) : Calls Try.prog 18 #[.pointer (some ⟨B, 0, none⟩), .int .u32 (l : Nat)] w fun e w' => e = .returned (ptrO B (findO x l)) ∧ Below w.heap.size w w' := by
  have hz2 := zero_place
  have HPC := Lib.hid places_any
  have H := Lib.hid h
  clear h
  go_enter Try.func18, Try.ntmps18
  go_wp2_with fail
  go_step3
  go_wp2_with fail
  go_step3
  go_wp2_with (go_at_call 20; refine (HPC.out B _).mono ?_; rintro e X1 ⟨rfl, hb1⟩; have HX1 := Lib.hid (show FdW w B x X1 from ⟨H.out.below hb1 H.out.lt, hb1⟩); clear hb1)
  go_loopw [5, 10] (fun f i X => f = .pointer none ∧ FdW w B x X ∧ (i = .int .i64 0 ∨ (i = .int .i64 1 ∧ ¬ (x.hc = true ∧ x.c.l = l)) ∨ (i = .int .i64 2 ∧ ¬ (x.hc = true ∧ x.c.l = l) ∧ ¬ (x.hn = true ∧ x.n.l = l)) ∨ (i = .int .i64 3 ∧ ¬ (x.hc = true ∧ x.c.l = l) ∧ ¬ (x.hn = true ∧ x.n.l = l) ∧ ¬ (x.hp = true ∧ x.p.l = l)))) (fun _ i _ => 3 - (intOf i).toNat)
  case atStart => exact ⟨rfl, HX1.out, .inl rfl⟩
  case round =>
    clear HX1
    obtain ⟨rfl, hT, hrel⟩ := hrel
    rcases hrel with rfl | ⟨rfl, hK⟩ | ⟨rfl, hK, hK2⟩ | ⟨rfl, hK, hK2, hK3⟩
    ·
      have HT := Lib.hid hT
      clear hT
      obtain ⟨hb, hhb⟩ : ∃ b, x.hc = b := ⟨_, rfl⟩
      obtain ⟨qb, hq⟩ : ∃ b, (((x.c.l : Nat) : Int) == ((l : Nat) : Int)) = b := ⟨_, rfl⟩
      have HHB := Lib.hid (And.intro hhb hq)
      have HQT := Lib.hid (show qb = true ↔ x.c.l = l from by rw [← hq, beq_iff_eq]; omega)
      have HCL := Lib.hid (show ∀ V, FdW w B x V → V.cell? ⟨B, 1, none⟩ = some (.bool hb) ∧ V.cell? ⟨B, 139, none⟩ = some (.int .u32 (x.c.l : Nat)) from fun V hV => ⟨by rw [← hhb]; exact at_hc hV.arg, loc_c hV.arg⟩)
      obtain ⟨LI, hLI⟩ : ∃ LI : Int, ((x.c.l : Nat) : Int) = LI := ⟨_, rfl⟩
      rw [hLI] at hq HCL
      clear hhb hLI
      go_upto_region 5 with (first
        | (refine wpList_index rfl 71 (.tmp 9) (.tmp 10) rfl _ _ _ rfl rfl (index0 B _) ?_)
        | (refine wpList_store_row rfl 70 (.tmp 7) (.tmp 12) rfl wr.heap.size (p2 B 1 75).toArray rfl rfl 70 _ (Whole.new _ _ _) (by kernel_rfl) (by kernel_rfl) (p2_one B 1 75) ?_))
      refine cut_world (fun V => FdW w B x V ∧ Whole V wr.heap.size 70 (p2 B 1 75).toArray) ⟨HT.out.below (below_var _ _ _ _), setRow_heap _ _ _ _ _ _ (Whole.new _ _ _)⟩ ?_
      rintro V hV
      have HV := Lib.hid hV
      generalize wr.heap.size = M at HV ⊢
      clear hV HT
      have c0 : V.cell? ⟨M, 0, none⟩ = some (.pointer (some ⟨B, 1, none⟩)) := HV.out.2.cell 0
      have c1 : V.cell? ⟨M, 1, none⟩ = some (.pointer (some ⟨B, 75, none⟩)) := HV.out.2.cell 1
      have cb := (HCL.out _ HV.out.1).1
      have cl := (HCL.out _ HV.out.1).2
      cases hb with
      | false =>
        have HNO := Lib.hid (show ¬ (x.hc = true ∧ x.c.l = l) from fun h => by have := HHB.out.1; rw [h.1] at this; cases this)
        go_wp2_with fail
        go_round
        case rel => exact ⟨rfl, HV.out.1, .inr (.inl ⟨rfl, HNO.out⟩)⟩
        case measure => simp only [intOf]; omega
      | true =>
        cases qb with
        | false =>
          have HNO := Lib.hid (show ¬ (x.hc = true ∧ x.c.l = l) from fun h => by have := HQT.out.2 h.2; cases this)
          go_wp2_with fail
          go_round
          case rel => exact ⟨rfl, HV.out.1, .inr (.inl ⟨rfl, HNO.out⟩)⟩
          case measure => simp only [intOf]; omega
        | true =>
          go_wp2_with fail
          go_ret
          exact ⟨by rw [find_c HHB.out.1 (HQT.out.1 (by trivial))]; rfl, HV.out.1.bel⟩
    · have HK := Lib.hid hK
      clear hK
      have HT := Lib.hid hT
      clear hT
      obtain ⟨hb, hhb⟩ : ∃ b, x.hn = b := ⟨_, rfl⟩
      obtain ⟨qb, hq⟩ : ∃ b, (((x.n.l : Nat) : Int) == ((l : Nat) : Int)) = b := ⟨_, rfl⟩
      have HHB := Lib.hid (And.intro hhb hq)
      have HQT := Lib.hid (show qb = true ↔ x.n.l = l from by rw [← hq, beq_iff_eq]; omega)
      have HCL := Lib.hid (show ∀ V, FdW w B x V → V.cell? ⟨B, 2, none⟩ = some (.bool hb) ∧ V.cell? ⟨B, 211, none⟩ = some (.int .u32 (x.n.l : Nat)) from fun V hV => ⟨by rw [← hhb]; exact at_hn hV.arg, loc_n hV.arg⟩)
      obtain ⟨LI, hLI⟩ : ∃ LI : Int, ((x.n.l : Nat) : Int) = LI := ⟨_, rfl⟩
      rw [hLI] at hq HCL
      clear hhb hLI
      go_upto_region 5 with (first
        | (refine wpList_index rfl 71 (.tmp 9) (.tmp 10) rfl _ _ _ rfl rfl (index1 B _) ?_)
        | (refine wpList_store_row rfl 70 (.tmp 7) (.tmp 12) rfl wr.heap.size (p2 B 2 147).toArray rfl rfl 70 _ (Whole.new _ _ _) (by kernel_rfl) (by kernel_rfl) (p2_one B 2 147) ?_))
      refine cut_world (fun V => FdW w B x V ∧ Whole V wr.heap.size 70 (p2 B 2 147).toArray) ⟨HT.out.below (below_var _ _ _ _), setRow_heap _ _ _ _ _ _ (Whole.new _ _ _)⟩ ?_
      rintro V hV
      have HV := Lib.hid hV
      generalize wr.heap.size = M at HV ⊢
      clear hV HT
      have c0 : V.cell? ⟨M, 0, none⟩ = some (.pointer (some ⟨B, 2, none⟩)) := HV.out.2.cell 0
      have c1 : V.cell? ⟨M, 1, none⟩ = some (.pointer (some ⟨B, 147, none⟩)) := HV.out.2.cell 1
      have cb := (HCL.out _ HV.out.1).1
      have cl := (HCL.out _ HV.out.1).2
      cases hb with
      | false =>
        have HNO := Lib.hid (show ¬ (x.hn = true ∧ x.n.l = l) from fun h => by have := HHB.out.1; rw [h.1] at this; cases this)
        go_wp2_with fail
        go_round
        case rel => exact ⟨rfl, HV.out.1, .inr (.inr (.inl ⟨rfl, HK.out, HNO.out⟩))⟩
        case measure => simp only [intOf]; omega
      | true =>
        cases qb with
        | false =>
          have HNO := Lib.hid (show ¬ (x.hn = true ∧ x.n.l = l) from fun h => by have := HQT.out.2 h.2; cases this)
          go_wp2_with fail
          go_round
          case rel => exact ⟨rfl, HV.out.1, .inr (.inr (.inl ⟨rfl, HK.out, HNO.out⟩))⟩
          case measure => simp only [intOf]; omega
        | true =>
          go_wp2_with fail
          go_ret
          exact ⟨by rw [find_n HK.out HHB.out.1 (HQT.out.1 (by trivial))]; rfl, HV.out.1.bel⟩
    · have HK := Lib.hid (And.intro hK hK2)
      clear hK hK2
      have HT := Lib.hid hT
      clear hT
      obtain ⟨hb, hhb⟩ : ∃ b, x.hp = b := ⟨_, rfl⟩
      obtain ⟨qb, hq⟩ : ∃ b, (((x.p.l : Nat) : Int) == ((l : Nat) : Int)) = b := ⟨_, rfl⟩
      have HHB := Lib.hid (And.intro hhb hq)
      have HQT := Lib.hid (show qb = true ↔ x.p.l = l from by rw [← hq, beq_iff_eq]; omega)
      have HCL := Lib.hid (show ∀ V, FdW w B x V → V.cell? ⟨B, 0, none⟩ = some (.bool hb) ∧ V.cell? ⟨B, 67, none⟩ = some (.int .u32 (x.p.l : Nat)) from fun V hV => ⟨by rw [← hhb]; exact at_hp hV.arg, loc_p hV.arg⟩)
      obtain ⟨LI, hLI⟩ : ∃ LI : Int, ((x.p.l : Nat) : Int) = LI := ⟨_, rfl⟩
      rw [hLI] at hq HCL
      clear hhb hLI
      go_upto_region 5 with (first
        | (refine wpList_index rfl 71 (.tmp 9) (.tmp 10) rfl _ _ _ rfl rfl (index2 B _) ?_)
        | (refine wpList_store_row rfl 70 (.tmp 7) (.tmp 12) rfl wr.heap.size (p2 B 0 3).toArray rfl rfl 70 _ (Whole.new _ _ _) (by kernel_rfl) (by kernel_rfl) (p2_one B 0 3) ?_))
      refine cut_world (fun V => FdW w B x V ∧ Whole V wr.heap.size 70 (p2 B 0 3).toArray) ⟨HT.out.below (below_var _ _ _ _), setRow_heap _ _ _ _ _ _ (Whole.new _ _ _)⟩ ?_
      rintro V hV
      have HV := Lib.hid hV
      generalize wr.heap.size = M at HV ⊢
      clear hV HT
      have c0 : V.cell? ⟨M, 0, none⟩ = some (.pointer (some ⟨B, 0, none⟩)) := HV.out.2.cell 0
      have c1 : V.cell? ⟨M, 1, none⟩ = some (.pointer (some ⟨B, 3, none⟩)) := HV.out.2.cell 1
      have cb := (HCL.out _ HV.out.1).1
      have cl := (HCL.out _ HV.out.1).2
      cases hb with
      | false =>
        have HNO := Lib.hid (show ¬ (x.hp = true ∧ x.p.l = l) from fun h => by have := HHB.out.1; rw [h.1] at this; cases this)
        go_wp2_with fail
        go_round
        case rel => exact ⟨rfl, HV.out.1, .inr (.inr (.inr ⟨rfl, HK.out.1, HK.out.2, HNO.out⟩))⟩
        case measure => simp only [intOf]; omega
      | true =>
        cases qb with
        | false =>
          have HNO := Lib.hid (show ¬ (x.hp = true ∧ x.p.l = l) from fun h => by have := HQT.out.2 h.2; cases this)
          go_wp2_with fail
          go_round
          case rel => exact ⟨rfl, HV.out.1, .inr (.inr (.inr ⟨rfl, HK.out.1, HK.out.2, HNO.out⟩))⟩
          case measure => simp only [intOf]; omega
        | true =>
          go_wp2_with fail
          go_ret
          exact ⟨by rw [find_p HK.out.1 HK.out.2 HHB.out.1 (HQT.out.1 (by trivial))]; rfl, HV.out.1.bel⟩
    · have HT := Lib.hid hT
      have HK := Lib.hid (find_no hK hK2 hK3)
      clear hT hK hK2 hK3
      go_wp2_with fail
      first | go_ret | (rw [Exit.noGoto_ret]; go_ret) | go_ret2
      exact ⟨by rw [HK.out]; rfl, HT.out.bel⟩
/-- what is too old is not there -/
def e1 (x : SS) (t : Int) : SS := { x with hc := if oldB x.c t = true then false else x.hc }
def e2 (x : SS) (t : Int) : SS := { e1 x t with hn := if oldB x.n t = true then false else x.hn }
def e3 (x : SS) (t : Int) : SS := { e2 x t with hp := if oldB x.p t = true then false else x.hp }
def expire (x : SS) (t : Int) : SS := tidy (e3 x t)
structure ExW (w : World) (B : Nat) (x : SS) (X : World) : Prop where
  arg : Whole X (B + 1 + 1) 36 (slL x).toArray
  res : Whole X (B + 1) 36 (slL noS).toArray
  bel : Below B w X
theorem ExW.below {w : World} {B : Nat} {x : SS} {X Y : World} (h : ExW w B x X) (hb : Below X.heap.size X Y) : ExW w B x Y :=
  ⟨h.arg.below hb h.arg.lt, h.res.below hb h.res.lt, h.bel.trans (hb.mono (by have := h.res.lt; omega))⟩
theorem ExW.setP {w : World} {B : Nat} {x : SS} {X : World} (h : ExW w B x X) (v : Bool) : ExW w B { x with hp := v } (X.setCell ⟨B + 1 + 1, 0, none⟩ (.bool v)) := ⟨put_hp h.arg v, Whole.far h.res (by show B + 1 ≠ B + 1 + 1; omega) _, h.bel.setCell (show B ≤ B + 1 + 1 by omega) _⟩
theorem ExW.setC {w : World} {B : Nat} {x : SS} {X : World} (h : ExW w B x X) (v : Bool) : ExW w B { x with hc := v } (X.setCell ⟨B + 1 + 1, 1, none⟩ (.bool v)) := ⟨put_hc h.arg v, Whole.far h.res (by show B + 1 ≠ B + 1 + 1; omega) _, h.bel.setCell (show B ≤ B + 1 + 1 by omega) _⟩
theorem ExW.setN {w : World} {B : Nat} {x : SS} {X : World} (h : ExW w B x X) (v : Bool) : ExW w B { x with hn := v } (X.setCell ⟨B + 1 + 1, 2, none⟩ (.bool v)) := ⟨put_hn h.arg v, Whole.far h.res (by show B + 1 ≠ B + 1 + 1; omega) _, h.bel.setCell (show B ≤ B + 1 + 1 by omega) _⟩
set_option maxRecDepth 100000 in
set_option maxHeartbeats 8000000 in
theorem expire_any (x : SS) (t : Int) (h0 : -9223372036854775808 ≤ t) (h1 : t ≤ 9223372036854775807) (w : World) : Calls Try.prog 11 #[slV x, .int .i64 t] w fun e w' => e = .returned (slV (expire x t)) ∧ Below w.heap.size w w' := by
  unfold slV
  have hz := zero_slots
  have hz2 := zero_place
  have HPC := Lib.hid places_any
  have HTD := Lib.hid (tidy_any (e3 x t))
  unfold slV at HTD
  have HE3 := Lib.hid (And.intro (slL_length (e3 x t)) (sl_one (e3 x t)))
  have HFL := Lib.hid (And.intro (slL_length (expire x t)) (sl_one (expire x t)))
  have HSZ := Lib.hid (And.intro (slL_length x) (sl_one x))
  have HT1 := Lib.hid (show (oldB x.c t = false → e1 x t = x) ∧ (oldB x.c t = true → e1 x t = { x with hc := false }) from ⟨fun h => by unfold e1; rw [h]; rfl, fun h => by unfold e1; rw [if_pos h]⟩)
  have HT2 := Lib.hid (show (oldB x.n t = false → e2 x t = e1 x t) ∧ (oldB x.n t = true → e2 x t = { e1 x t with hn := false }) from ⟨fun h => by unfold e2; rw [h]; rfl, fun h => by unfold e2; rw [if_pos h]⟩)
  have HT3 := Lib.hid (show (oldB x.p t = false → e3 x t = e2 x t) ∧ (oldB x.p t = true → e3 x t = { e2 x t with hp := false }) from ⟨fun h => by unfold e3; rw [h]; rfl, fun h => by unfold e3; rw [if_pos h]⟩)
  rw [show tidy (e3 x t) = expire x t from rfl] at HTD
  obtain ⟨L, hL⟩ : ∃ L, slL x = L := ⟨_, rfl⟩
  have HL := Lib.hid hL
  rw [hL] at HSZ ⊢
  obtain ⟨L3, hL3⟩ : ∃ L, slL (e3 x t) = L := ⟨_, rfl⟩
  have HL3 := Lib.hid hL3
  rw [hL3] at HTD HE3
  obtain ⟨LF, hLF⟩ : ∃ L, slL (expire x t) = L := ⟨_, rfl⟩
  rw [hLF] at HTD HFL ⊢
  clear hL hL3 hLF
  go_enter Try.func11, Try.ntmps11
  go_upto_region 2 with (first
    | (refine wpList_load_row rfl 36 (.tmp 2) rfl w.heap.size rfl 36 L.toArray (0, 0) _ ((Whole.new _ _ _).alloc _) rfl rfl (by rw [List.size_toArray, HSZ.out.1]; kernel_rfl) ?_)
    | (refine wpList_store_row rfl 36 (.tmp 5) (.tmp 8) rfl (w.heap.size + 1 + 1) L.toArray rfl rfl 36 _ (whole_new _ _ (by simp)) (by rw [List.size_toArray, HSZ.out.1]; kernel_rfl) (by rw [sl_size, List.size_toArray, HSZ.out.1]) HSZ.out.2 ?_))
  refine cut_world (fun X => ExW w w.heap.size x X) ⟨by rw [HL.out]; exact setRow_heap _ _ _ _ _ _ (whole_new _ _ (by simp)), Whole.farRow ((whole_new _ _ (by simp)).alloc _) (by omega) _, below_setRow (below_alloc (below_alloc (below_alloc (Below.refl _ _) _) _) _) (by omega) _⟩ ?_
  rintro X hX
  generalize hB : w.heap.size = B at hX ⊢
  have HB := Lib.hid hB
  have HX := Lib.hid hX
  clear hB hX hz
  go_wp2_with (go_at_call 20; refine (HPC.out (B + 1 + 1) _).mono ?_; rintro e X1 ⟨rfl, hb1⟩; have HX1 := Lib.hid (HX.out.below hb1); clear hb1)
  go_loopw [10] (fun i X => (i = .int .i64 0 ∧ ExW w B x X) ∨ (i = .int .i64 1 ∧ ExW w B (e1 x t) X) ∨ (i = .int .i64 2 ∧ ExW w B (e2 x t) X) ∨ (i = .int .i64 3 ∧ ExW w B (e3 x t) X)) (fun i _ => 3 - (intOf i).toNat)
  case atStart => exact .inl ⟨rfl, HX1.out⟩
  case round =>
    clear HX HX1
    rcases hrel with ⟨rfl, hT⟩ | ⟨rfl, hT⟩ | ⟨rfl, hT⟩ | ⟨rfl, hT⟩
    ·
      have HT := Lib.hid hT
      clear hT
      obtain ⟨ob, hob⟩ : ∃ b, oldB x.c t = b := ⟨_, rfl⟩
      have HOB := Lib.hid hob
      have HOLD := Lib.hid (fun w => old_any x.c t h0 h1 w)
      have HRG := Lib.hid (show ∀ V, ExW w B (x) V → V.rangeAt (B + 1 + 1) 75 (pairL x.c) ∧ ∃ v, V.cell? ⟨B + 1 + 1, 1, none⟩ = some (.bool v) from fun V hV => ⟨at_c (x := x) hV.arg, ⟨_, at_hc (x := x) hV.arg⟩⟩)
      have HSET := Lib.hid (show ∀ V, ExW w B (x) V → ExW w B { (x) with hc := false } (V.setCell ⟨B + 1 + 1, 1, none⟩ (.bool false)) from fun V hV => hV.setC false)
      have HPL := Lib.hid (pairL_length x.c)
      unfold pairV at HOLD
      rw [hob] at HOLD
      obtain ⟨PL, hPL⟩ : ∃ L, pairL x.c = L := ⟨_, rfl⟩
      rw [hPL] at HRG HPL HOLD
      clear hob hPL
      go_upto_region 5 with (first
        | (refine wpList_index rfl 71 (.tmp 9) (.tmp 10) rfl _ _ _ rfl rfl (index0 (B + 1 + 1) _) ?_)
        | (refine wpList_store_row rfl 70 (.tmp 7) (.tmp 12) rfl wr.heap.size (p2 (B + 1 + 1) 1 75).toArray rfl rfl 70 _ (Whole.new _ _ _) (by kernel_rfl) (by kernel_rfl) (p2_one (B + 1 + 1) 1 75) ?_))
      refine cut_world (fun V => ExW w B (x) V ∧ Whole V wr.heap.size 70 (p2 (B + 1 + 1) 1 75).toArray) ⟨HT.out.below (below_var _ _ _ _), setRow_heap _ _ _ _ _ _ (Whole.new _ _ _)⟩ ?_
      rintro V hV
      have HV := Lib.hid hV
      generalize wr.heap.size = M at HV ⊢
      clear hV HT
      have c1 : V.cell? ⟨M, 1, none⟩ = some (.pointer (some ⟨B + 1 + 1, 75, none⟩)) := HV.out.2.cell 1
      cases ob with
      | false =>
        go_wp2_with (first
          | (refine wpList_load_mid rfl 34 (.tmp 15) rfl (B + 1 + 1) 75 rfl PL _ (HRG.out _ HV.out.1).1 rfl rfl (by rw [HPL.out]; kernel_rfl) ?_)
          | (go_at_call 21; refine (HOLD.out _).mono ?_; rintro e V2 ⟨rfl, hb2⟩; have HV2 := Lib.hid (HV.out.1.below hb2); clear hb2))
        go_round
        case rel => exact .inr (.inl ⟨rfl, by rw [HT1.out.1 HOB.out]; exact HV2.out⟩)
        case measure => simp only [intOf]; omega
      | true =>
        go_wp2_with (first
          | (refine wpList_load_mid rfl 34 (.tmp 15) rfl (B + 1 + 1) 75 rfl PL _ (HRG.out _ HV.out.1).1 rfl rfl (by rw [HPL.out]; kernel_rfl) ?_)
          | (go_at_call 21; refine (HOLD.out _).mono ?_; rintro e V2 ⟨rfl, hb2⟩; have HV2 := Lib.hid (HV.out.1.below hb2); have HV4 := Lib.hid (HV.out.2.below hb2 HV.out.2.lt); clear hb2; have c0 : V2.cell? ⟨M, 0, none⟩ = some (.pointer (some ⟨B + 1 + 1, 1, none⟩)) := HV4.out.cell 0; obtain ⟨ov, cb⟩ := (HRG.out _ HV2.out).2; have hfr := HV2.out.arg.free 1; have HV3 := Lib.hid (HSET.out V2 HV2.out)))
        go_round
        case rel => exact .inr (.inl ⟨rfl, by rw [HT1.out.2 HOB.out]; exact HV3.out⟩)
        case measure => simp only [intOf]; omega
    ·
      have HT := Lib.hid hT
      clear hT
      obtain ⟨ob, hob⟩ : ∃ b, oldB x.n t = b := ⟨_, rfl⟩
      have HOB := Lib.hid hob
      have HOLD := Lib.hid (fun w => old_any x.n t h0 h1 w)
      have HRG := Lib.hid (show ∀ V, ExW w B (e1 x t) V → V.rangeAt (B + 1 + 1) 147 (pairL x.n) ∧ ∃ v, V.cell? ⟨B + 1 + 1, 2, none⟩ = some (.bool v) from fun V hV => ⟨at_n (x := e1 x t) hV.arg, ⟨_, at_hn (x := e1 x t) hV.arg⟩⟩)
      have HSET := Lib.hid (show ∀ V, ExW w B (e1 x t) V → ExW w B { (e1 x t) with hn := false } (V.setCell ⟨B + 1 + 1, 2, none⟩ (.bool false)) from fun V hV => hV.setN false)
      have HPL := Lib.hid (pairL_length x.n)
      unfold pairV at HOLD
      rw [hob] at HOLD
      obtain ⟨PL, hPL⟩ : ∃ L, pairL x.n = L := ⟨_, rfl⟩
      rw [hPL] at HRG HPL HOLD
      clear hob hPL
      go_upto_region 5 with (first
        | (refine wpList_index rfl 71 (.tmp 9) (.tmp 10) rfl _ _ _ rfl rfl (index1 (B + 1 + 1) _) ?_)
        | (refine wpList_store_row rfl 70 (.tmp 7) (.tmp 12) rfl wr.heap.size (p2 (B + 1 + 1) 2 147).toArray rfl rfl 70 _ (Whole.new _ _ _) (by kernel_rfl) (by kernel_rfl) (p2_one (B + 1 + 1) 2 147) ?_))
      refine cut_world (fun V => ExW w B (e1 x t) V ∧ Whole V wr.heap.size 70 (p2 (B + 1 + 1) 2 147).toArray) ⟨HT.out.below (below_var _ _ _ _), setRow_heap _ _ _ _ _ _ (Whole.new _ _ _)⟩ ?_
      rintro V hV
      have HV := Lib.hid hV
      generalize wr.heap.size = M at HV ⊢
      clear hV HT
      have c1 : V.cell? ⟨M, 1, none⟩ = some (.pointer (some ⟨B + 1 + 1, 147, none⟩)) := HV.out.2.cell 1
      cases ob with
      | false =>
        go_wp2_with (first
          | (refine wpList_load_mid rfl 34 (.tmp 15) rfl (B + 1 + 1) 147 rfl PL _ (HRG.out _ HV.out.1).1 rfl rfl (by rw [HPL.out]; kernel_rfl) ?_)
          | (go_at_call 21; refine (HOLD.out _).mono ?_; rintro e V2 ⟨rfl, hb2⟩; have HV2 := Lib.hid (HV.out.1.below hb2); clear hb2))
        go_round
        case rel => exact .inr (.inr (.inl ⟨rfl, by rw [HT2.out.1 HOB.out]; exact HV2.out⟩))
        case measure => simp only [intOf]; omega
      | true =>
        go_wp2_with (first
          | (refine wpList_load_mid rfl 34 (.tmp 15) rfl (B + 1 + 1) 147 rfl PL _ (HRG.out _ HV.out.1).1 rfl rfl (by rw [HPL.out]; kernel_rfl) ?_)
          | (go_at_call 21; refine (HOLD.out _).mono ?_; rintro e V2 ⟨rfl, hb2⟩; have HV2 := Lib.hid (HV.out.1.below hb2); have HV4 := Lib.hid (HV.out.2.below hb2 HV.out.2.lt); clear hb2; have c0 : V2.cell? ⟨M, 0, none⟩ = some (.pointer (some ⟨B + 1 + 1, 2, none⟩)) := HV4.out.cell 0; obtain ⟨ov, cb⟩ := (HRG.out _ HV2.out).2; have hfr := HV2.out.arg.free 2; have HV3 := Lib.hid (HSET.out V2 HV2.out)))
        go_round
        case rel => exact .inr (.inr (.inl ⟨rfl, by rw [HT2.out.2 HOB.out]; exact HV3.out⟩))
        case measure => simp only [intOf]; omega
    ·
      have HT := Lib.hid hT
      clear hT
      obtain ⟨ob, hob⟩ : ∃ b, oldB x.p t = b := ⟨_, rfl⟩
      have HOB := Lib.hid hob
      have HOLD := Lib.hid (fun w => old_any x.p t h0 h1 w)
      have HRG := Lib.hid (show ∀ V, ExW w B (e2 x t) V → V.rangeAt (B + 1 + 1) 3 (pairL x.p) ∧ ∃ v, V.cell? ⟨B + 1 + 1, 0, none⟩ = some (.bool v) from fun V hV => ⟨at_p (x := e2 x t) hV.arg, ⟨_, at_hp (x := e2 x t) hV.arg⟩⟩)
      have HSET := Lib.hid (show ∀ V, ExW w B (e2 x t) V → ExW w B { (e2 x t) with hp := false } (V.setCell ⟨B + 1 + 1, 0, none⟩ (.bool false)) from fun V hV => hV.setP false)
      have HPL := Lib.hid (pairL_length x.p)
      unfold pairV at HOLD
      rw [hob] at HOLD
      obtain ⟨PL, hPL⟩ : ∃ L, pairL x.p = L := ⟨_, rfl⟩
      rw [hPL] at HRG HPL HOLD
      clear hob hPL
      go_upto_region 5 with (first
        | (refine wpList_index rfl 71 (.tmp 9) (.tmp 10) rfl _ _ _ rfl rfl (index2 (B + 1 + 1) _) ?_)
        | (refine wpList_store_row rfl 70 (.tmp 7) (.tmp 12) rfl wr.heap.size (p2 (B + 1 + 1) 0 3).toArray rfl rfl 70 _ (Whole.new _ _ _) (by kernel_rfl) (by kernel_rfl) (p2_one (B + 1 + 1) 0 3) ?_))
      refine cut_world (fun V => ExW w B (e2 x t) V ∧ Whole V wr.heap.size 70 (p2 (B + 1 + 1) 0 3).toArray) ⟨HT.out.below (below_var _ _ _ _), setRow_heap _ _ _ _ _ _ (Whole.new _ _ _)⟩ ?_
      rintro V hV
      have HV := Lib.hid hV
      generalize wr.heap.size = M at HV ⊢
      clear hV HT
      have c1 : V.cell? ⟨M, 1, none⟩ = some (.pointer (some ⟨B + 1 + 1, 3, none⟩)) := HV.out.2.cell 1
      cases ob with
      | false =>
        go_wp2_with (first
          | (refine wpList_load_mid rfl 34 (.tmp 15) rfl (B + 1 + 1) 3 rfl PL _ (HRG.out _ HV.out.1).1 rfl rfl (by rw [HPL.out]; kernel_rfl) ?_)
          | (go_at_call 21; refine (HOLD.out _).mono ?_; rintro e V2 ⟨rfl, hb2⟩; have HV2 := Lib.hid (HV.out.1.below hb2); clear hb2))
        go_round
        case rel => exact .inr (.inr (.inr ⟨rfl, by rw [HT3.out.1 HOB.out]; exact HV2.out⟩))
        case measure => simp only [intOf]; omega
      | true =>
        go_wp2_with (first
          | (refine wpList_load_mid rfl 34 (.tmp 15) rfl (B + 1 + 1) 3 rfl PL _ (HRG.out _ HV.out.1).1 rfl rfl (by rw [HPL.out]; kernel_rfl) ?_)
          | (go_at_call 21; refine (HOLD.out _).mono ?_; rintro e V2 ⟨rfl, hb2⟩; have HV2 := Lib.hid (HV.out.1.below hb2); have HV4 := Lib.hid (HV.out.2.below hb2 HV.out.2.lt); clear hb2; have c0 : V2.cell? ⟨M, 0, none⟩ = some (.pointer (some ⟨B + 1 + 1, 0, none⟩)) := HV4.out.cell 0; obtain ⟨ov, cb⟩ := (HRG.out _ HV2.out).2; have hfr := HV2.out.arg.free 0; have HV3 := Lib.hid (HSET.out V2 HV2.out)))
        go_round
        case rel => exact .inr (.inr (.inr ⟨rfl, by rw [HT3.out.2 HOB.out]; exact HV3.out⟩))
        case measure => simp only [intOf]; omega
    · have HT := Lib.hid hT
      clear hT
      have HA := Lib.hid (show Whole wr (B + 1 + 1) 36 L3.toArray from by rw [← HL3.out]; exact HT.out.arg)
      go_wp2_with (first
        | (refine wpList_load_row rfl 36 (.tmp 5) rfl (B + 1 + 1) rfl 36 L3.toArray (0, 0) _ HA.out rfl rfl (by rw [List.size_toArray, HE3.out.1]; kernel_rfl) ?_)
        | (go_at_call 16; refine (HTD.out _).mono ?_; rintro e W2 ⟨rfl, hb2⟩; have HW2 := Lib.hid (HT.out.below hb2); clear hb2)
        | (refine wpList_store_row rfl 36 (.tmp 4) (.tmp 24) rfl (B + 1) LF.toArray rfl rfl 36 _ HW2.out.res (by rw [List.size_toArray, HFL.out.1]; kernel_rfl) (by rw [sl_size, List.size_toArray, HFL.out.1]) HFL.out.2 ?_))
      have HE := Lib.hid (setRow_heap _ _ _ LF.toArray _ _ HW2.out.res)
      refine bodyPost_ret (results_rowcell rfl _ _ (B + 1) 36 LF _ rfl HE.out rfl rfl (by rw [HFL.out.1]; kernel_rfl)) rfl ?_
      exact ⟨rfl, by rw [HB.out]; exact below_setRow HW2.out.bel (Nat.le_succ _) _⟩
end Sl
end Go.Proofs.Ytdhjgenijieeaaa
