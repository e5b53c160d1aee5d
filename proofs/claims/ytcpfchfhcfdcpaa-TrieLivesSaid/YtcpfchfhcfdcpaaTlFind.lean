/- The document's own place and Get of routes. -/
import Derived.Test.YtcpfchfhcfdcpaaCdRefF
import Derived.Test.YtcpfchfhcfdcpaaTrieOwners
namespace Go.Proofs.Ytcpfchfhcfdcpaa
namespace Tri
open Go.ChangeShapes Go.WideShapes Go.ChangeAt Go.RowKit
open Num Mem Words Chacha Aead Poly Quiet Ops Adr RowS

/-- where a prefix stands -/
def PlR (L : List Rt) (P : Rt → Bool) (r : Int) : Prop :=
  (∃ (k : Nat) (x : Rt), r = (k : Int) ∧ L[k]? = some x ∧ P x = true ∧ ∀ j y, j < k → L[j]? = some y → P y = false) ∨ (r = -1 ∧ ∀ y ∈ L, P y = false)
structure PlW (w : World) (B : Nat) (P : List Value) (A : Option Addr) (L : List Rt) (X : World) : Prop where
  p : Whole X B 29 P.toArray
  rd : RdQ X A L
  bel : Below B w X
theorem PlW.below {w : World} {B : Nat} {P : List Value} {A : Option Addr} {L : List Rt} {X Y : World} (h : PlW w B P A L X) (hb : Below X.heap.size X Y) : PlW w B P A L Y :=
  ⟨h.p.below hb h.p.lt, h.rd.below hb (Nat.le_refl _), h.bel.trans (hb.mono (Nat.le_of_lt h.p.lt))⟩
set_option maxRecDepth 100000 in
set_option maxHeartbeats 4000000 in
theorem place_any {w : World} {A : Option Addr} {L : List Rt} (c : Nat) (h : RdQ w A L) (hL : L.length ≤ 1000) (s : Bool) (g : Nat → Nat) (hg : ∀ i, g i < 256) (z : Int) :
    Calls Try.prog 29 #[.slice A L.length c, .agg (prefL s g z).toArray] w fun e w' => ∃ r : Int, e = .returned (.int .i64 r) ∧ PlR L (isP s g z) r ∧ Below w.heap.size w w' := by
  have HEQ := Lib.hid (fun (x : Rt) (r : Bool) (hr : isP s g z x = r) X => eqin_pref 9996 x.s s (byt x.p) g (x.p.length : Int) z (byt_lt x.p) hg r (by rw [← hr]; exact isP_iff) X)
  have HPL := Lib.hid (prefL_length s g z)
  obtain ⟨P, hP⟩ : ∃ P, prefL s g z = P := ⟨_, rfl⟩
  obtain ⟨F, hF⟩ : ∃ F, isP s g z = F := ⟨_, rfl⟩
  obtain ⟨n, hn⟩ : ∃ n, L.length = n := ⟨_, rfl⟩
  rw [hP] at HEQ HPL ⊢
  rw [hF] at HEQ ⊢
  rw [hn] at hL ⊢
  have HN := Lib.hid hn
  clear hP hF hn hg
  have HR := Lib.hid h
  clear h
  go_enter Try.func29, Try.ntmps29
  go_upto_region 1 with fail
  refine cut_world (fun X => PlW w w.heap.size P A L X) ⟨Whole.new _ _ _, HR.out.below (below_alloc (Below.refl _ _) _) (Nat.le_refl _), below_alloc (Below.refl _ _) _⟩ ?_
  intro W hW
  generalize hB : w.heap.size = B at hW ⊢
  have HB := Lib.hid hB
  have HW := Lib.hid hW
  clear hB hW HR
  go_wp2_with fail
  go_loopw [5] (fun i X => ∃ k : Nat, k ≤ n ∧ i = .int .i64 k ∧ PlW w B P A L X ∧ ∀ j y, j < k → L[j]? = some y → F y = false) (fun i _ => n - (intOf i).toNat)
  case atStart => exact ⟨0, Nat.zero_le _, rfl, HW.out, fun j y hj => by omega⟩
  case round =>
    obtain ⟨k, hk, rfl, hX, hno⟩ := hrel
    have HX := Lib.hid hX
    have HNO := Lib.hid hno
    clear hX hno HW
    by_cases hlt : k < n
    · have hkL : k < L.length := by rw [HN.out]; exact hlt
      have hx := List.getElem?_eq_getElem hkL
      generalize L[k] = x at hx
      obtain ⟨b, rfl, hbl, hrg⟩ := HX.out.rd.out k x hx
      have HXK := Lib.hid hx
      have HRG := Lib.hid (show ∀ X, Below wr.heap.size wr X → X.rangeAt b (k * 19) (prefL x.s (byt x.p) (x.p.length : Int)) from fun X hX j v hj => range_below hrg hX hbl j v (route_pre _ _ _ _ hj))
      have HXL := Lib.hid (prefL_length x.s (byt x.p) (x.p.length : Int))
      obtain ⟨r, hr⟩ : ∃ r, F x = r := ⟨_, rfl⟩
      have HE := Lib.hid (HEQ.out x r hr)
      have HFX := Lib.hid hr
      obtain ⟨PX, hPX⟩ : ∃ PX, prefL x.s (byt x.p) (x.p.length : Int) = PX := ⟨_, rfl⟩
      rw [hPX] at HRG HXL HE
      clear hx hrg hbl hkL hPX hr
      go_upto_region 4 with fail
      refine q_start (by kernel_rfl) (by kernel_rfl) ?_
      refine Ops.wq_in ?_
      refine Ops.wq_take _ (by rfl) (fun X hx => by go_simp; try with_reducible rfl) ?_
      try simp only [Act.put, List.setIfInBounds_toArray, List.set_cons_zero, List.set_cons_succ]
      refine Ops.wq_take _ (by rfl) (fun X hx => by go_simp; try with_reducible rfl) ?_
      try simp only [Act.put, List.setIfInBounds_toArray, List.set_cons_zero, List.set_cons_succ]
      refine Ops.wq_take _ (by rfl) (fun X hx => by go_simp; try with_reducible rfl) ?_
      try simp only [Act.put, List.setIfInBounds_toArray, List.set_cons_zero, List.set_cons_succ]
      refine Ops.wq_take _ (by rfl) (fun X hx => by go_simp; try with_reducible rfl) ?_
      try simp only [Act.put, List.setIfInBounds_toArray, List.set_cons_zero, List.set_cons_succ]
      refine Ops.wq_take (.agg PX.toArray) (by rfl) (fun X hx => run_mid_in 29 (.tmp 15) rfl b (k * 19) (by go_simp) PX _ (HRG.out X hx) rfl rfl (by rw [HXL.out]; kernel_rfl)) ?_
      try simp only [Act.put, List.setIfInBounds_toArray, List.set_cons_zero, List.set_cons_succ]
      refine Ops.wq_take (.agg P.toArray) (by rfl) (fun X hx => run_load_in 29 (.tmp 3) rfl B rfl P.toArray 18 (by rw [List.size_toArray, HPL.out]) (HX.out.below hx).p rfl rfl (by kernel_rfl)) ?_
      try simp only [Act.put, List.setIfInBounds_toArray, List.set_cons_zero, List.set_cons_succ]
      refine Ops.wq_take (.bool r) (by rfl) (fun X hx => Ops.run_eql_op 29 (.tmp 16) (.tmp 17) 29 rfl PX.toArray P.toArray rfl rfl r (by kernel_rfl) (fun w => HE.out w) X) ?_
      try simp only [Act.put, List.setIfInBounds_toArray, List.set_cons_zero, List.set_cons_succ]
      refine Ops.wq_end ?_
      intro w3 hb3
      have HX3 := Lib.hid (HX.out.below hb3)
      clear hb3 HX HRG HE
      cases r with
      | true =>
        go_wp2_with fail
        go_ret
        exact ⟨(k : Int), rfl, .inl ⟨k, x, rfl, HXK.out, HFX.out, HNO.out⟩, by rw [HB.out]; exact HX3.out.bel⟩
      | false =>
        go_wp2_with fail
        go_round
        case rel =>
          refine ⟨k + 1, by omega, by go_num, HX3.out, fun j y hj hy => ?_⟩
          by_cases e : j = k
          · subst e
            rw [HXK.out] at hy
            exact Option.some.inj hy ▸ HFX.out
          · exact HNO.out j y (by omega) hy
        case measure => simp only [intOf]; omega
    · obtain rfl : k = n := by omega
      go_wp2_with fail
      go_ret
      refine ⟨-1, rfl, .inr ⟨rfl, fun y hy => ?_⟩, by rw [HB.out]; exact HX.out.bel⟩
      obtain ⟨j, hj, e⟩ := List.mem_iff_getElem.1 hy
      exact HNO.out j y (by rw [← HN.out]; exact hj) (e ▸ List.getElem?_eq_getElem hj)
theorem plr_get {L : List Rt} {s : Bool} {g : Nat → Nat} {z : Int} {k : Nat} {x : Rt} (hk : L[k]? = some x) (hx : isP s g z x = true) (hno : ∀ j y, j < k → L[j]? = some y → isP s g z y = false) : getO L s g z = x.o ∧ getB L s g z = true := by
  have hlt := (List.getElem?_eq_some_iff.1 hk).1
  refine get_some (pre := L.take k) (x := x) ?_ (fun y hy => ?_) hx
  · rw [show L.take k ++ [x] = L.take (k + 1) by rw [List.take_succ_eq_append_getElem hlt]; congr; exact ((List.getElem?_eq_some_iff.1 hk).2).symm]
    exact List.take_prefix _ _
  · obtain ⟨j, hj, e⟩ := List.mem_iff_getElem.1 hy
    rw [List.length_take] at hj
    rw [List.getElem_take] at e
    exact hno j y (by omega) (e ▸ List.getElem?_eq_getElem _)
set_option maxRecDepth 100000 in
set_option maxHeartbeats 4000000 in
theorem rGet_any {w : World} {A : Option Addr} {L : List Rt} (c : Nat) (h : RdQ w A L) (hL : L.length ≤ 1000) (s : Bool) (g : Nat → Nat) (hg : ∀ i, g i < 256) (z : Int) :
    Calls Try.prog 13 #[.slice A L.length c, .agg (prefL s g z).toArray] w fun e w' => e = .returned (.tuple #[.int .i64 (getO L s g z), .bool (getB L s g z)]) ∧ Below w.heap.size w w' := by
  have HPA := Lib.hid (fun (X : World) (h : RdQ X A L) => place_any c h hL s g hg z)
  have HPL := Lib.hid (prefL_length s g z)
  have HG1 := Lib.hid (fun (k : Nat) (x : Rt) h1 h2 h3 => plr_get (L := L) (s := s) (g := g) (z := z) (k := k) (x := x) h1 h2 h3)
  have HG0 := Lib.hid (fun h => get_none (L := L) (s := s) (g := g) (z := z) h)
  obtain ⟨P, hP⟩ : ∃ P, prefL s g z = P := ⟨_, rfl⟩
  obtain ⟨F, hF⟩ : ∃ F, isP s g z = F := ⟨_, rfl⟩
  obtain ⟨O, hO⟩ : ∃ O, getO L s g z = O := ⟨_, rfl⟩
  obtain ⟨T, hT⟩ : ∃ O, getB L s g z = O := ⟨_, rfl⟩
  obtain ⟨n, hn⟩ : ∃ n, L.length = n := ⟨_, rfl⟩
  rw [hP] at HPA HPL ⊢
  rw [hF] at HPA HG1 HG0
  rw [hO] at HG1 HG0 ⊢
  rw [hT] at HG1 HG0 ⊢
  rw [hn] at HPA hL ⊢
  have HN := Lib.hid hn
  have HR := Lib.hid h
  clear hP hF hn hg hO hT h
  go_enter Try.func13, Try.ntmps13
  go_upto_region 1 with fail
  refine cut_world (fun X => PlW w w.heap.size P A L X) ⟨Whole.new _ _ _, HR.out.below (below_alloc (Below.refl _ _) _) (Nat.le_refl _), below_alloc (Below.refl _ _) _⟩ ?_
  intro W hW
  generalize hB : w.heap.size = B at hW ⊢
  have HB := Lib.hid hB
  have HW := Lib.hid hW
  clear hB hW HR
  go_upto_region 2 with (first
    | (refine Poly.wpList_load_row_if rfl 29 (.tmp 3) rfl B rfl 29 P _ HW.out.p rfl rfl (by rw [HPL.out]; kernel_rfl) ?_)
    | (go_at_call 29; refine (HPA.out _ HW.out.rd).mono ?_; rintro e w1 ⟨r, rfl, hpl, hb1⟩; have HW1 := Lib.hid (HW.out.below hb1); clear hb1))
  rcases hpl with ⟨k, x, rfl, h1, h2, h3⟩ | ⟨rfl, h1⟩
  · have HG := Lib.hid (HG1.out k x h1 h2 h3)
    obtain ⟨b, rfl, hbl, hrg⟩ := HW1.out.rd.out k x h1
    have hc := hrg 18 _ (show x.cells[18]? = some (.int .i64 x.o) from x.own)
    have hkn : k < n := by rw [← HN.out]; exact (List.getElem?_eq_some_iff.1 h1).1
    clear h1 h2 h3 hbl hrg
    go_wp2_with fail
    go_ret2
    exact ⟨by rw [HG.out.1, HG.out.2]; rfl, by rw [HB.out]; exact HW1.out.bel⟩
  · have HG := Lib.hid (HG0.out h1)
    clear h1
    go_wp2_with fail
    go_ret2
    exact ⟨by rw [HG.out.1, HG.out.2]; rfl, by rw [HB.out]; exact HW1.out.bel⟩
end Tri
end Go.Proofs.Ytcpfchfhcfdcpaa

namespace Go.Proofs.Ytcpfchfhcfdcpaa
namespace Tri
open Go.ChangeShapes Go.WideShapes Go.ChangeAt Go.RowKit
open Num Mem Words Chacha Aead Poly Quiet Ops Adr RowS

/-- does a route hold an address? -/
def holdB (s : Bool) (f : Nat → Nat) (x : Rt) : Bool := holdsPB x.s (byt x.p) (x.p.length : Int) s f
def upB (F : Rt → Bool) (o : Option Rt) (x : Rt) : Option Rt := if F x = true ∧ (o = none ∨ ∃ y, o = some y ∧ y.p.length < x.p.length) then some x else o
def bestL (F : Rt → Bool) (L : List Rt) : Option Rt := L.foldl (upB F) none
theorem best_snoc (F : Rt → Bool) (L : List Rt) (x : Rt) : bestL F (L ++ [x]) = upB F (bestL F L) x := by unfold bestL; rw [List.foldl_append]; rfl
def bestC (o : Option Rt) : List Value := (o.getD noRt).cells
structure FnW (w : World) (B : Nat) (AL : List Value) (Z : Array Value) (C : List Value) (X : World) : Prop where
  adr : Whole X B 27 AL.toArray
  res : Whole X (B + 1) 41 Z
  best : Whole X (B + 2) 41 C.toArray
  bel : Below B w X
theorem FnW.below {w : World} {B : Nat} {AL : List Value} {Z : Array Value} {C : List Value} {X Y : World} (h : FnW w B AL Z C X) (hb : Below X.heap.size X Y) : FnW w B AL Z C Y :=
  ⟨h.adr.below hb h.adr.lt, h.res.below hb h.res.lt, h.best.below hb h.best.lt, h.bel.trans (hb.mono (Nat.le_of_lt h.adr.lt))⟩
theorem zero_refr : ∀ w : World, (zeroValue 41).run Try.prog w = .ok (.agg (routeL false nought 0 0).toArray) w := fun w => by kernel_rfl
theorem built_refr0 : Try.prog.built 41 [] = some (routeL false nought 0 0).toArray := by kernel_rfl
set_option maxRecDepth 100000 in
set_option maxHeartbeats 4000000 in
theorem rFind_any {w : World} {A : Option Addr} {L : List Rt} (c : Nat) (h : RdQ w A L) (hL : L.length ≤ 1000) (fL : Fits L) (s : Bool) (f : Nat → Nat) (hf : ∀ i, f i < 256) :
    Calls Try.prog 11 #[.slice A L.length c, .agg (addrL s f).toArray] w fun e w' => e = .returned (.tuple #[.agg (bestC (bestL (holdB s f) L)).toArray, .bool (bestL (holdB s f) L).isSome]) ∧ Below w.heap.size w w' := by
  have HH := Lib.hid (fun (x : Rt) (hx : (x.p.length : Int) ≤ digitsI x.s) (X : World) => (show Calls Try.prog 28 #[.agg (prefL x.s (byt x.p) (x.p.length : Int)).toArray, .agg (addrL s f).toArray] X fun e w' => e = .returned (.bool (holdB s f x)) ∧ Below X.heap.size X w' from rHolds_any x.s (byt x.p) (byt_lt x.p) x.p.length (right_byt hx) s f hf X))
  have HF := Lib.hid fL
  have HAL := Lib.hid (addrL_length s f)
  obtain ⟨AL, hAL⟩ : ∃ AL, addrL s f = AL := ⟨_, rfl⟩
  obtain ⟨F, hFF⟩ : ∃ F, holdB s f = F := ⟨_, rfl⟩
  obtain ⟨n, hn⟩ : ∃ n, L.length = n := ⟨_, rfl⟩
  rw [hAL] at HH HAL ⊢
  rw [hFF] at HH ⊢
  rw [hn] at hL ⊢
  have HN := Lib.hid hn
  have HR := Lib.hid h
  clear hAL hFF hn hf h fL
  have hzr := zero_refr
  have HB0 := Lib.hid built_refr0
  have HZS := Lib.hid (show (routeL false nought 0 0).toArray.size = 19 by rw [List.size_toArray, routeL_length])
  have HZO := Lib.hid (show (routeL false nought 0 0).toArray.all (·.oneCell') = true by rw [List.all_toArray, List.all_eq_true]; exact route_each _ _ _ _)
  have HZB := Lib.hid (show (bestC none).toArray = (routeL false nought 0 0).toArray from by unfold bestC; rw [Option.getD_none, noRt_cells])
  obtain ⟨Z, hZ⟩ : ∃ Z, (routeL false nought 0 0).toArray = Z := ⟨_, rfl⟩
  rw [hZ] at hzr HB0 HZS HZO HZB
  clear hZ
  obtain ⟨CE, hCE⟩ : ∃ C, bestC (bestL F L) = C := ⟨_, rfl⟩
  obtain ⟨TE, hTE⟩ : ∃ b, (bestL F L).isSome = b := ⟨_, rfl⟩
  rw [hCE, hTE]
  have HCE := Lib.hid (And.intro hCE hTE)
  clear hCE hTE
  go_enter Try.func11, Try.ntmps11
  go_upto_region 2 with (first
    | (refine wpList_built0 rfl 41 rfl Z HB0.out ?_)
    | (refine wpList_store_row rfl 41 (.tmp 6) (.tmp 9) rfl (w.heap.size + 2) Z rfl rfl 41 Z (whole_new _ _ (by simp)) (by rw [HZS.out]; kernel_rfl) rfl HZO.out ?_))
  refine cut_world (fun X => FnW w w.heap.size AL Z (bestC none) X) ⟨Whole.farRow (((Whole.new _ _ _).alloc _).alloc _) (by omega) _, Whole.farRow ((whole_new _ _ (by simp)).alloc _) (by omega) _, by rw [HZB.out]; exact setRow_heap _ _ _ _ _ _ (whole_new _ _ (by simp)), below_setRow ((((Below.refl _ w).alloc (Nat.le_refl _) _).alloc (by simp) _).alloc (by simp; omega) _) (Nat.le_add_right _ _) _⟩ ?_
  intro W hW
  have HRD := Lib.hid (fun (X : World) (hX : Below w.heap.size w X) => HR.out.below hX (Nat.le_refl _))
  generalize hB : w.heap.size = B at hW HRD ⊢
  have HB := Lib.hid hB
  have HW := Lib.hid hW
  clear hB hW HR hzr
  go_wp2_with fail
  go_loopw [7, 8] (fun o i X => ∃ k : Nat, k ≤ n ∧ i = .int .i64 k ∧ o = .bool (bestL F (L.take k)).isSome ∧ FnW w B AL Z (bestC (bestL F (L.take k))) X) (fun _ i _ => n - (intOf i).toNat)
  case atStart => exact ⟨0, Nat.zero_le _, rfl, rfl, HW.out⟩
  case round =>
    obtain ⟨k, hk, rfl, rfl, hX⟩ := hrel
    have HX := Lib.hid hX
    clear hX HW
    by_cases hlt : k < n
    · have hkL : k < L.length := by rw [HN.out]; exact hlt
      have hx := List.getElem?_eq_getElem hkL
      have hup := best_snoc F (L.take k) L[k]
      rw [← List.take_succ_eq_append_getElem hkL] at hup
      have hfx := HF.out L[k] (List.getElem_mem hkL)
      generalize L[k] = x at hx hup hfx
      obtain ⟨b, rfl, hbl, hrg⟩ := (HRD.out _ HX.out.bel).out k x hx
      have HXK := Lib.hid hx
      have HRC := Lib.hid (show ∀ X, Below wr.heap.size wr X → X.rangeAt b (k * 19) x.cells from fun X hX => range_below hrg hX hbl)
      have HRG := Lib.hid (show ∀ X, Below wr.heap.size wr X → X.rangeAt b (k * 19) (prefL x.s (byt x.p) (x.p.length : Int)) ∧ X.cell? ⟨b, k * 19 + 17, none⟩ = some (.int .i64 (x.p.length : Nat)) from fun X hX => ⟨fun j v hj => HRC.out X hX j v (route_pre _ _ _ _ hj), HRC.out X hX 17 _ (route_pre _ _ _ _ (pref_bits _ _ _))⟩)
      have HXL := Lib.hid (prefL_length x.s (byt x.p) (x.p.length : Int))
      have HE := Lib.hid (HH.out x hfx)
      have HCL := Lib.hid (show x.cells.length = 19 ∧ x.cells.toArray.all (·.oneCell') = true from ⟨x.len, by rw [List.all_toArray, List.all_eq_true]; exact x.each⟩)
      have hl128 : x.p.length ≤ 128 := by have := digits_le x.s; omega
      have HBC1 := Lib.hid (show x.cells = bestC (some x) from rfl)
      obtain ⟨PX, hPX⟩ : ∃ PX, prefL x.s (byt x.p) (x.p.length : Int) = PX := ⟨_, rfl⟩
      obtain ⟨C, hC⟩ : ∃ C, x.cells = C := ⟨_, rfl⟩
      obtain ⟨o, ho⟩ : ∃ o, bestL F (L.take k) = o := ⟨_, rfl⟩
      rw [hPX] at HRG HXL HE
      rw [hC] at HRC HCL HBC1
      rw [ho] at hup HX ⊢
      have HRG2 := Lib.hid (fun X hX => (HRG.out X hX).2)
      have HC17 := Lib.hid (show ∀ y, o = some y → ∀ X, Below wr.heap.size wr X → X.cell? ⟨B + 2, 17, none⟩ = some (.int .i64 (y.p.length : Nat)) from fun y hy X hX => by rw [(HX.out.below hX).best.cell, hy, List.getElem?_toArray]; exact route_pre _ _ _ _ (pref_bits _ _ _))
      have HCB := Lib.hid (show (bestC o).length = 19 from Rt.len _)
      clear hx hrg hbl hkL hPX hC hfx ho
      obtain ⟨r, hr⟩ : ∃ r, F x = r := ⟨_, rfl⟩
      rw [hr] at HE
      cases r with
      | false =>
        have HUP := Lib.hid (show bestL F (L.take (k + 1)) = o from by rw [hup]; unfold upB; rw [if_neg (fun h => by rw [hr] at h; cases h.1)])
        have HBC := Lib.hid (show bestC o = bestC o from rfl)
        have HOK := Lib.hid (show Value.bool o.isSome = Value.bool o.isSome from rfl)
        clear hup hr
        go_upto_region 5 with fail
        refine q_start (by kernel_rfl) (by kernel_rfl) ?_
        refine Ops.wq_in ?_
        refine Ops.wq_take _ (by rfl) (fun X hx => by go_simp; try with_reducible rfl) ?_
        try simp only [Act.put, List.setIfInBounds_toArray, List.set_cons_zero, List.set_cons_succ]
        refine Ops.wq_take _ (by rfl) (fun X hx => by go_simp; try with_reducible rfl) ?_
        try simp only [Act.put, List.setIfInBounds_toArray, List.set_cons_zero, List.set_cons_succ]
        refine Ops.wq_take _ (by rfl) (fun X hx => by go_simp; try with_reducible rfl) ?_
        try simp only [Act.put, List.setIfInBounds_toArray, List.set_cons_zero, List.set_cons_succ]
        refine Ops.wq_take _ (by rfl) (fun X hx => by go_simp; try with_reducible rfl) ?_
        try simp only [Act.put, List.setIfInBounds_toArray, List.set_cons_zero, List.set_cons_succ]
        refine Ops.wq_take (.agg PX.toArray) (by rfl) (fun X hx => run_mid_in 29 (.tmp 19) rfl b (k * 19) (by go_simp) PX _ (HRG.out X hx).1 rfl rfl (by rw [HXL.out]; kernel_rfl)) ?_
        try simp only [Act.put, List.setIfInBounds_toArray, List.set_cons_zero, List.set_cons_succ]
        refine Ops.wq_take (.agg AL.toArray) (by rfl) (fun X hx => run_load_in 27 (.tmp 3) rfl B rfl AL.toArray 17 (by rw [List.size_toArray, HAL.out]) (HX.out.below hx).adr rfl rfl (by kernel_rfl)) ?_
        try simp only [Act.put, List.setIfInBounds_toArray, List.set_cons_zero, List.set_cons_succ]
        refine Ops.wq_call (.bool false) 28 #[.agg PX.toArray, .agg AL.toArray] (by rfl) (by intro w; go_simp; try with_reducible rfl) (fun X hx => (HE.out X).mono (fun e w' ⟨h1, h2⟩ => ⟨h1, below_trans hx h2⟩)) ?_
        try simp only [Act.put, List.setIfInBounds_toArray, List.set_cons_zero, List.set_cons_succ]
        refine Ops.wq_take _ (by rfl) (fun X hx => by go_simp; try with_reducible rfl) ?_
        try simp only [Act.put, List.setIfInBounds_toArray, List.set_cons_zero, List.set_cons_succ]
        refine Ops.wq_pass (by rfl) ?_
        try simp only [Act.put, List.setIfInBounds_toArray, List.set_cons_zero, List.set_cons_succ]
        refine Ops.wq_pass (by rfl) ?_
        try simp only [Act.put, List.setIfInBounds_toArray, List.set_cons_zero, List.set_cons_succ]
        refine Ops.wq_pass (by rfl) ?_
        try simp only [Act.put, List.setIfInBounds_toArray, List.set_cons_zero, List.set_cons_succ]
        refine Ops.wq_pass (by rfl) ?_
        try simp only [Act.put, List.setIfInBounds_toArray, List.set_cons_zero, List.set_cons_succ]
        refine Ops.wq_pass (by rfl) ?_
        try simp only [Act.put, List.setIfInBounds_toArray, List.set_cons_zero, List.set_cons_succ]
        refine Ops.wq_pass (by rfl) ?_
        try simp only [Act.put, List.setIfInBounds_toArray, List.set_cons_zero, List.set_cons_succ]
        refine Ops.wq_pass (by rfl) ?_
        try simp only [Act.put, List.setIfInBounds_toArray, List.set_cons_zero, List.set_cons_succ]
        refine Ops.wq_pass (by rfl) ?_
        try simp only [Act.put, List.setIfInBounds_toArray, List.set_cons_zero, List.set_cons_succ]
        refine Ops.wq_pass (by rfl) ?_
        try simp only [Act.put, List.setIfInBounds_toArray, List.set_cons_zero, List.set_cons_succ]
        refine Ops.wq_pass (by rfl) ?_
        try simp only [Act.put, List.setIfInBounds_toArray, List.set_cons_zero, List.set_cons_succ]
        refine Ops.wq_pass (by rfl) ?_
        try simp only [Act.put, List.setIfInBounds_toArray, List.set_cons_zero, List.set_cons_succ]
        refine Ops.wq_pass (by rfl) ?_
        try simp only [Act.put, List.setIfInBounds_toArray, List.set_cons_zero, List.set_cons_succ]
        refine Ops.wq_pass (by rfl) ?_
        try simp only [Act.put, List.setIfInBounds_toArray, List.set_cons_zero, List.set_cons_succ]
        refine Ops.wq_pass (by rfl) ?_
        try simp only [Act.put, List.setIfInBounds_toArray, List.set_cons_zero, List.set_cons_succ]
        refine Ops.wq_take _ (by rfl) (fun X hx => by go_simp; try with_reducible rfl) ?_
        try simp only [Act.put, List.setIfInBounds_toArray, List.set_cons_zero, List.set_cons_succ]
        refine Ops.wq_end ?_
        intro w3 hb3
        have HX3 := Lib.hid (HX.out.below hb3)
        have HRG3 := Lib.hid (show w3.rangeAt b (k * 19) C from (HRC.out _ hb3))
        clear hb3 HX HRG HE
        go_wp2_with fail
        go_round
        case rel => exact ⟨k + 1, by omega, by go_num, by rw [HUP.out], by rw [HUP.out]; exact HBC.out ▸ HX3.out⟩
        case measure => simp only [intOf]; omega
      | true =>
        cases o with
        | none =>
          have HUP := Lib.hid (show bestL F (L.take (k + 1)) = some x from by rw [hup]; unfold upB; rw [if_pos ⟨hr, .inl rfl⟩])
          have HBC := HBC1
          clear hup hr
          go_upto_region 5 with fail
          refine q_start (by kernel_rfl) (by kernel_rfl) ?_
          refine Ops.wq_in ?_
          refine Ops.wq_take _ (by rfl) (fun X hx => by go_simp; try with_reducible rfl) ?_
          try simp only [Act.put, List.setIfInBounds_toArray, List.set_cons_zero, List.set_cons_succ]
          refine Ops.wq_take _ (by rfl) (fun X hx => by go_simp; try with_reducible rfl) ?_
          try simp only [Act.put, List.setIfInBounds_toArray, List.set_cons_zero, List.set_cons_succ]
          refine Ops.wq_take _ (by rfl) (fun X hx => by go_simp; try with_reducible rfl) ?_
          try simp only [Act.put, List.setIfInBounds_toArray, List.set_cons_zero, List.set_cons_succ]
          refine Ops.wq_take _ (by rfl) (fun X hx => by go_simp; try with_reducible rfl) ?_
          try simp only [Act.put, List.setIfInBounds_toArray, List.set_cons_zero, List.set_cons_succ]
          refine Ops.wq_take (.agg PX.toArray) (by rfl) (fun X hx => run_mid_in 29 (.tmp 19) rfl b (k * 19) (by go_simp) PX _ (HRG.out X hx).1 rfl rfl (by rw [HXL.out]; kernel_rfl)) ?_
          try simp only [Act.put, List.setIfInBounds_toArray, List.set_cons_zero, List.set_cons_succ]
          refine Ops.wq_take (.agg AL.toArray) (by rfl) (fun X hx => run_load_in 27 (.tmp 3) rfl B rfl AL.toArray 17 (by rw [List.size_toArray, HAL.out]) (HX.out.below hx).adr rfl rfl (by kernel_rfl)) ?_
          try simp only [Act.put, List.setIfInBounds_toArray, List.set_cons_zero, List.set_cons_succ]
          refine Ops.wq_call (.bool true) 28 #[.agg PX.toArray, .agg AL.toArray] (by rfl) (by intro w; go_simp; try with_reducible rfl) (fun X hx => (HE.out X).mono (fun e w' ⟨h1, h2⟩ => ⟨h1, below_trans hx h2⟩)) ?_
          try simp only [Act.put, List.setIfInBounds_toArray, List.set_cons_zero, List.set_cons_succ]
          refine Ops.wq_take _ (by rfl) (fun X hx => by go_simp; try with_reducible rfl) ?_
          try simp only [Act.put, List.setIfInBounds_toArray, List.set_cons_zero, List.set_cons_succ]
          refine Ops.wq_take _ (by rfl) (fun X hx => by go_simp; try with_reducible rfl) ?_
          try simp only [Act.put, List.setIfInBounds_toArray, List.set_cons_zero, List.set_cons_succ]
          refine Ops.wq_take _ (by rfl) (fun X hx => by go_simp; try with_reducible rfl) ?_
          try simp only [Act.put, List.setIfInBounds_toArray, List.set_cons_zero, List.set_cons_succ]
          refine Ops.wq_take _ (by rfl) (fun X hx => by go_simp; try with_reducible rfl) ?_
          try simp only [Act.put, List.setIfInBounds_toArray, List.set_cons_zero, List.set_cons_succ]
          refine Ops.wq_pass (by rfl) ?_
          try simp only [Act.put, List.setIfInBounds_toArray, List.set_cons_zero, List.set_cons_succ]
          refine Ops.wq_pass (by rfl) ?_
          try simp only [Act.put, List.setIfInBounds_toArray, List.set_cons_zero, List.set_cons_succ]
          refine Ops.wq_pass (by rfl) ?_
          try simp only [Act.put, List.setIfInBounds_toArray, List.set_cons_zero, List.set_cons_succ]
          refine Ops.wq_pass (by rfl) ?_
          try simp only [Act.put, List.setIfInBounds_toArray, List.set_cons_zero, List.set_cons_succ]
          refine Ops.wq_pass (by rfl) ?_
          try simp only [Act.put, List.setIfInBounds_toArray, List.set_cons_zero, List.set_cons_succ]
          refine Ops.wq_pass (by rfl) ?_
          try simp only [Act.put, List.setIfInBounds_toArray, List.set_cons_zero, List.set_cons_succ]
          refine Ops.wq_pass (by rfl) ?_
          try simp only [Act.put, List.setIfInBounds_toArray, List.set_cons_zero, List.set_cons_succ]
          refine Ops.wq_pass (by rfl) ?_
          try simp only [Act.put, List.setIfInBounds_toArray, List.set_cons_zero, List.set_cons_succ]
          refine Ops.wq_pass (by rfl) ?_
          try simp only [Act.put, List.setIfInBounds_toArray, List.set_cons_zero, List.set_cons_succ]
          refine Ops.wq_pass (by rfl) ?_
          try simp only [Act.put, List.setIfInBounds_toArray, List.set_cons_zero, List.set_cons_succ]
          refine Ops.wq_take _ (by rfl) (fun X hx => by go_simp; try with_reducible rfl) ?_
          try simp only [Act.put, List.setIfInBounds_toArray, List.set_cons_zero, List.set_cons_succ]
          refine Ops.wq_take _ (by rfl) (fun X hx => by go_simp; try with_reducible rfl) ?_
          try simp only [Act.put, List.setIfInBounds_toArray, List.set_cons_zero, List.set_cons_succ]
          refine Ops.wq_end ?_
          intro w3 hb3
          have HX3 := Lib.hid (HX.out.below hb3)
          have HRG3 := Lib.hid (show w3.rangeAt b (k * 19) C from (HRC.out _ hb3))
          clear hb3 HX HRG HE
          go_wp2_with (first
            | (refine wpList_load_mid rfl 41 (.tmp 41) rfl b (k * 19) (by go_simp) C _ HRG3.out rfl rfl (by rw [HCL.out.1]; kernel_rfl) ?_)
            | (refine wpList_store_row rfl 41 (.tmp 6) (.tmp 42) rfl (B + 2) C.toArray rfl rfl 41 _ HX3.out.best (by rw [List.size_toArray, HCL.out.1]; kernel_rfl) (by rw [List.size_toArray, List.size_toArray, HCL.out.1, HCB.out]) HCL.out.2 ?_))
          have HY := Lib.hid (show FnW w B AL Z C (w3.setRow (B + 2) C.toArray) from ⟨Whole.farRow HX3.out.adr (by omega) _, Whole.farRow HX3.out.res (by omega) _, setRow_heap _ _ _ _ _ _ HX3.out.best, below_setRow HX3.out.bel (Nat.le_add_right _ _) _⟩)
          clear HX3
          go_round
          case rel => exact ⟨k + 1, by omega, by go_num, by rw [HUP.out]; rfl, by rw [HUP.out]; exact HBC.out ▸ HY.out⟩
          case measure => simp only [intOf]; omega
        | some y =>
          have HY17 := Lib.hid (HC17.out y rfl)
          by_cases hgt : y.p.length < x.p.length
          · have HUP := Lib.hid (show bestL F (L.take (k + 1)) = some x from by rw [hup]; unfold upB; rw [if_pos ⟨hr, .inr ⟨y, rfl, hgt⟩⟩])
            have HBC := HBC1
            have hd : decide (((y.p.length : Nat) : Int) < ((x.p.length : Nat) : Int)) = true := by simp; exact hgt
            clear hup hr
            go_upto_region 5 with fail
            refine q_start (by kernel_rfl) (by kernel_rfl) ?_
            refine Ops.wq_in ?_
            refine Ops.wq_take _ (by rfl) (fun X hx => by go_simp; try with_reducible rfl) ?_
            try simp only [Act.put, List.setIfInBounds_toArray, List.set_cons_zero, List.set_cons_succ]
            refine Ops.wq_take _ (by rfl) (fun X hx => by go_simp; try with_reducible rfl) ?_
            try simp only [Act.put, List.setIfInBounds_toArray, List.set_cons_zero, List.set_cons_succ]
            refine Ops.wq_take _ (by rfl) (fun X hx => by go_simp; try with_reducible rfl) ?_
            try simp only [Act.put, List.setIfInBounds_toArray, List.set_cons_zero, List.set_cons_succ]
            refine Ops.wq_take _ (by rfl) (fun X hx => by go_simp; try with_reducible rfl) ?_
            try simp only [Act.put, List.setIfInBounds_toArray, List.set_cons_zero, List.set_cons_succ]
            refine Ops.wq_take (.agg PX.toArray) (by rfl) (fun X hx => run_mid_in 29 (.tmp 19) rfl b (k * 19) (by go_simp) PX _ (HRG.out X hx).1 rfl rfl (by rw [HXL.out]; kernel_rfl)) ?_
            try simp only [Act.put, List.setIfInBounds_toArray, List.set_cons_zero, List.set_cons_succ]
            refine Ops.wq_take (.agg AL.toArray) (by rfl) (fun X hx => run_load_in 27 (.tmp 3) rfl B rfl AL.toArray 17 (by rw [List.size_toArray, HAL.out]) (HX.out.below hx).adr rfl rfl (by kernel_rfl)) ?_
            try simp only [Act.put, List.setIfInBounds_toArray, List.set_cons_zero, List.set_cons_succ]
            refine Ops.wq_call (.bool true) 28 #[.agg PX.toArray, .agg AL.toArray] (by rfl) (by intro w; go_simp; try with_reducible rfl) (fun X hx => (HE.out X).mono (fun e w' ⟨h1, h2⟩ => ⟨h1, below_trans hx h2⟩)) ?_
            try simp only [Act.put, List.setIfInBounds_toArray, List.set_cons_zero, List.set_cons_succ]
            refine Ops.wq_take _ (by rfl) (fun X hx => by go_simp; try with_reducible rfl) ?_
            try simp only [Act.put, List.setIfInBounds_toArray, List.set_cons_zero, List.set_cons_succ]
            refine Ops.wq_take _ (by rfl) (fun X hx => by go_simp; try with_reducible rfl) ?_
            try simp only [Act.put, List.setIfInBounds_toArray, List.set_cons_zero, List.set_cons_succ]
            refine Ops.wq_take _ (by rfl) (fun X hx => by go_simp; try with_reducible rfl) ?_
            try simp only [Act.put, List.setIfInBounds_toArray, List.set_cons_zero, List.set_cons_succ]
            refine Ops.wq_take _ (by rfl) (fun X hx => by go_simp; try with_reducible rfl) ?_
            try simp only [Act.put, List.setIfInBounds_toArray, List.set_cons_zero, List.set_cons_succ]
            refine Ops.wq_take _ (by rfl) (fun X hx => by go_simp; try with_reducible rfl) ?_
            try simp only [Act.put, List.setIfInBounds_toArray, List.set_cons_zero, List.set_cons_succ]
            refine Ops.wq_take _ (by rfl) (fun X hx => by go_simp; try with_reducible rfl) ?_
            try simp only [Act.put, List.setIfInBounds_toArray, List.set_cons_zero, List.set_cons_succ]
            refine Ops.wq_take _ (by rfl) (fun X hx => by go_simp; try with_reducible rfl) ?_
            try simp only [Act.put, List.setIfInBounds_toArray, List.set_cons_zero, List.set_cons_succ]
            refine Ops.wq_take _ (by rfl) (fun X hx => by go_simp; try with_reducible rfl) ?_
            try simp only [Act.put, List.setIfInBounds_toArray, List.set_cons_zero, List.set_cons_succ]
            refine Ops.wq_take _ (by rfl) (fun X hx => by go_simp; try with_reducible rfl) ?_
            try simp only [Act.put, List.setIfInBounds_toArray, List.set_cons_zero, List.set_cons_succ]
            refine Ops.wq_take _ (by rfl) (fun X hx => by have cl := HRG2.out X hx; go_simp; try with_reducible rfl) ?_
            try simp only [Act.put, List.setIfInBounds_toArray, List.set_cons_zero, List.set_cons_succ]
            refine Ops.wq_take _ (by rfl) (fun X hx => by go_simp; try with_reducible rfl) ?_
            try simp only [Act.put, List.setIfInBounds_toArray, List.set_cons_zero, List.set_cons_succ]
            refine Ops.wq_take _ (by rfl) (fun X hx => by go_simp; try with_reducible rfl) ?_
            try simp only [Act.put, List.setIfInBounds_toArray, List.set_cons_zero, List.set_cons_succ]
            refine Ops.wq_take _ (by rfl) (fun X hx => by have cl := HY17.out X hx; go_simp; try with_reducible rfl) ?_
            try simp only [Act.put, List.setIfInBounds_toArray, List.set_cons_zero, List.set_cons_succ]
            refine Ops.wq_take (.bool true) (by rfl) (fun X hx => by go_simp; try with_reducible rfl) ?_
            try simp only [Act.put, List.setIfInBounds_toArray, List.set_cons_zero, List.set_cons_succ]
            refine Ops.wq_take _ (by rfl) (fun X hx => by go_simp; try with_reducible rfl) ?_
            try simp only [Act.put, List.setIfInBounds_toArray, List.set_cons_zero, List.set_cons_succ]
            refine Ops.wq_take _ (by rfl) (fun X hx => by go_simp; try with_reducible rfl) ?_
            try simp only [Act.put, List.setIfInBounds_toArray, List.set_cons_zero, List.set_cons_succ]
            refine Ops.wq_end ?_
            intro w3 hb3
            have HX3 := Lib.hid (HX.out.below hb3)
            have HRG3 := Lib.hid (show w3.rangeAt b (k * 19) C from (HRC.out _ hb3))
            clear hb3 HX HRG HE
            go_wp2_with (first
              | (refine wpList_load_mid rfl 41 (.tmp 41) rfl b (k * 19) (by go_simp) C _ HRG3.out rfl rfl (by rw [HCL.out.1]; kernel_rfl) ?_)
              | (refine wpList_store_row rfl 41 (.tmp 6) (.tmp 42) rfl (B + 2) C.toArray rfl rfl 41 _ HX3.out.best (by rw [List.size_toArray, HCL.out.1]; kernel_rfl) (by rw [List.size_toArray, List.size_toArray, HCL.out.1, HCB.out]) HCL.out.2 ?_))
            have HY := Lib.hid (show FnW w B AL Z C (w3.setRow (B + 2) C.toArray) from ⟨Whole.farRow HX3.out.adr (by omega) _, Whole.farRow HX3.out.res (by omega) _, setRow_heap _ _ _ _ _ _ HX3.out.best, below_setRow HX3.out.bel (Nat.le_add_right _ _) _⟩)
            clear HX3
            go_round
            case rel => exact ⟨k + 1, by omega, by go_num, by rw [HUP.out]; rfl, by rw [HUP.out]; exact HBC.out ▸ HY.out⟩
            case measure => simp only [intOf]; omega
          · have HUP := Lib.hid (show bestL F (L.take (k + 1)) = some y from by rw [hup]; unfold upB; rw [if_neg (fun h => by rcases h.2 with h | ⟨v, h1, h2⟩; cases h; cases h1; exact hgt h2)])
            have HBC := Lib.hid (show bestC (some y) = bestC (some y) from rfl)
            have HOK := Lib.hid (show Value.bool (some y).isSome = Value.bool (some y).isSome from rfl)
            have hd : decide (((y.p.length : Nat) : Int) < ((x.p.length : Nat) : Int)) = false := by simp; omega
            clear hup hr
            go_upto_region 5 with fail
            refine q_start (by kernel_rfl) (by kernel_rfl) ?_
            refine Ops.wq_in ?_
            refine Ops.wq_take _ (by rfl) (fun X hx => by go_simp; try with_reducible rfl) ?_
            try simp only [Act.put, List.setIfInBounds_toArray, List.set_cons_zero, List.set_cons_succ]
            refine Ops.wq_take _ (by rfl) (fun X hx => by go_simp; try with_reducible rfl) ?_
            try simp only [Act.put, List.setIfInBounds_toArray, List.set_cons_zero, List.set_cons_succ]
            refine Ops.wq_take _ (by rfl) (fun X hx => by go_simp; try with_reducible rfl) ?_
            try simp only [Act.put, List.setIfInBounds_toArray, List.set_cons_zero, List.set_cons_succ]
            refine Ops.wq_take _ (by rfl) (fun X hx => by go_simp; try with_reducible rfl) ?_
            try simp only [Act.put, List.setIfInBounds_toArray, List.set_cons_zero, List.set_cons_succ]
            refine Ops.wq_take (.agg PX.toArray) (by rfl) (fun X hx => run_mid_in 29 (.tmp 19) rfl b (k * 19) (by go_simp) PX _ (HRG.out X hx).1 rfl rfl (by rw [HXL.out]; kernel_rfl)) ?_
            try simp only [Act.put, List.setIfInBounds_toArray, List.set_cons_zero, List.set_cons_succ]
            refine Ops.wq_take (.agg AL.toArray) (by rfl) (fun X hx => run_load_in 27 (.tmp 3) rfl B rfl AL.toArray 17 (by rw [List.size_toArray, HAL.out]) (HX.out.below hx).adr rfl rfl (by kernel_rfl)) ?_
            try simp only [Act.put, List.setIfInBounds_toArray, List.set_cons_zero, List.set_cons_succ]
            refine Ops.wq_call (.bool true) 28 #[.agg PX.toArray, .agg AL.toArray] (by rfl) (by intro w; go_simp; try with_reducible rfl) (fun X hx => (HE.out X).mono (fun e w' ⟨h1, h2⟩ => ⟨h1, below_trans hx h2⟩)) ?_
            try simp only [Act.put, List.setIfInBounds_toArray, List.set_cons_zero, List.set_cons_succ]
            refine Ops.wq_take _ (by rfl) (fun X hx => by go_simp; try with_reducible rfl) ?_
            try simp only [Act.put, List.setIfInBounds_toArray, List.set_cons_zero, List.set_cons_succ]
            refine Ops.wq_take _ (by rfl) (fun X hx => by go_simp; try with_reducible rfl) ?_
            try simp only [Act.put, List.setIfInBounds_toArray, List.set_cons_zero, List.set_cons_succ]
            refine Ops.wq_take _ (by rfl) (fun X hx => by go_simp; try with_reducible rfl) ?_
            try simp only [Act.put, List.setIfInBounds_toArray, List.set_cons_zero, List.set_cons_succ]
            refine Ops.wq_take _ (by rfl) (fun X hx => by go_simp; try with_reducible rfl) ?_
            try simp only [Act.put, List.setIfInBounds_toArray, List.set_cons_zero, List.set_cons_succ]
            refine Ops.wq_take _ (by rfl) (fun X hx => by go_simp; try with_reducible rfl) ?_
            try simp only [Act.put, List.setIfInBounds_toArray, List.set_cons_zero, List.set_cons_succ]
            refine Ops.wq_take _ (by rfl) (fun X hx => by go_simp; try with_reducible rfl) ?_
            try simp only [Act.put, List.setIfInBounds_toArray, List.set_cons_zero, List.set_cons_succ]
            refine Ops.wq_take _ (by rfl) (fun X hx => by go_simp; try with_reducible rfl) ?_
            try simp only [Act.put, List.setIfInBounds_toArray, List.set_cons_zero, List.set_cons_succ]
            refine Ops.wq_take _ (by rfl) (fun X hx => by go_simp; try with_reducible rfl) ?_
            try simp only [Act.put, List.setIfInBounds_toArray, List.set_cons_zero, List.set_cons_succ]
            refine Ops.wq_take _ (by rfl) (fun X hx => by go_simp; try with_reducible rfl) ?_
            try simp only [Act.put, List.setIfInBounds_toArray, List.set_cons_zero, List.set_cons_succ]
            refine Ops.wq_take _ (by rfl) (fun X hx => by have cl := HRG2.out X hx; go_simp; try with_reducible rfl) ?_
            try simp only [Act.put, List.setIfInBounds_toArray, List.set_cons_zero, List.set_cons_succ]
            refine Ops.wq_take _ (by rfl) (fun X hx => by go_simp; try with_reducible rfl) ?_
            try simp only [Act.put, List.setIfInBounds_toArray, List.set_cons_zero, List.set_cons_succ]
            refine Ops.wq_take _ (by rfl) (fun X hx => by go_simp; try with_reducible rfl) ?_
            try simp only [Act.put, List.setIfInBounds_toArray, List.set_cons_zero, List.set_cons_succ]
            refine Ops.wq_take _ (by rfl) (fun X hx => by have cl := HY17.out X hx; go_simp; try with_reducible rfl) ?_
            try simp only [Act.put, List.setIfInBounds_toArray, List.set_cons_zero, List.set_cons_succ]
            refine Ops.wq_take (.bool false) (by rfl) (fun X hx => by go_simp; try with_reducible rfl) ?_
            try simp only [Act.put, List.setIfInBounds_toArray, List.set_cons_zero, List.set_cons_succ]
            refine Ops.wq_take _ (by rfl) (fun X hx => by go_simp; try with_reducible rfl) ?_
            try simp only [Act.put, List.setIfInBounds_toArray, List.set_cons_zero, List.set_cons_succ]
            refine Ops.wq_take _ (by rfl) (fun X hx => by go_simp; try with_reducible rfl) ?_
            try simp only [Act.put, List.setIfInBounds_toArray, List.set_cons_zero, List.set_cons_succ]
            refine Ops.wq_end ?_
            intro w3 hb3
            have HX3 := Lib.hid (HX.out.below hb3)
            have HRG3 := Lib.hid (show w3.rangeAt b (k * 19) C from (HRC.out _ hb3))
            clear hb3 HX HRG HE
            go_wp2_with fail
            go_round
            case rel => exact ⟨k + 1, by omega, by go_num, by rw [HUP.out], by rw [HUP.out]; exact HBC.out ▸ HX3.out⟩
            case measure => simp only [intOf]; omega
    · obtain rfl : k = n := by omega
      have hall : L.take k = L := List.take_of_length_le (Nat.le_of_eq HN.out)
      rw [hall] at HX ⊢
      have HCL := Lib.hid (show (bestC (bestL F L)).length = 19 ∧ (bestC (bestL F L)).toArray.all (·.oneCell') = true from ⟨Rt.len _, by rw [List.all_toArray, List.all_eq_true]; exact Rt.each _⟩)
      rw [HCE.out.1] at HX HCL
      rw [HCE.out.2]
      have HE1 := Lib.hid (show (Try.prog.info? 41).map (·.size) = some CE.toArray.size by rw [List.size_toArray, HCL.out.1]; kernel_rfl)
      have HE2 := Lib.hid (show Z.size = CE.toArray.size by rw [HZS.out, List.size_toArray, HCL.out.1])
      go_wp2_with (first
        | (refine wpList_load_row rfl 41 (.tmp 6) rfl (B + 2) rfl 41 CE.toArray (0, 0) _ HX.out.best rfl rfl HE1.out ?_)
        | (refine wpList_store_row rfl 41 (.tmp 4) (.tmp 43) rfl (B + 1) CE.toArray rfl rfl 41 Z HX.out.res HE1.out HE2.out HCL.out.2 ?_))
      have hret : Whole (wr.setRow (B + 1) CE.toArray) (B + 1) 41 CE.toArray := setRow_heap _ _ _ _ _ _ HX.out.res
      refine bodyPost_ret (Poly.results_cell_tmp rfl _ _ (B + 1) 41 _ _ rfl hret rfl rfl (by rw [HCL.out.1]; kernel_rfl)) rfl ?_
      exact ⟨rfl, by rw [HB.out]; exact below_setRow HX.out.bel (Nat.le_succ _) _⟩
end Tri
end Go.Proofs.Ytcpfchfhcfdcpaa
