/- The walk of TrieOwners. -/
import Derived.Test.YtcpfchfhcfdcpaaTrPlay
namespace Go.Proofs.Ytcpfchfhcfdcpaa
namespace TrieOwners
open Go.ChangeShapes Go.WideShapes Go.ChangeAt Go.RowKit
open Num Mem Words Chacha Aead Poly Quiet Ops Adr RowS Tri

def noO (o : Int) (L : List Rt) : List Rt := L.filter fun x => decide (x.o ≠ o)
theorem noO_snoc (o : Int) (L : List Rt) (x : Rt) : noO o (L ++ [x]) = if x.o = o then noO o L else noO o L ++ [x] := by
  unfold noO
  rw [List.filter_append]
  by_cases h : x.o = o
  · rw [if_pos h]; simp [h]
  · rw [if_neg h]; simp [h]
def dropT (t : Tm) (o : Int) : Tm := ⟨dels o false t.L t.a, dels o true t.L t.b⟩
theorem drop_L {t : Tm} (h : t.Fit) (o : Int) : (dropT t o).L = noO o t.L := by
  have k : ∀ (s : Bool) (u : Tr), u.toL = (pickT s t.a t.b).toL.filter (fun y => decide (y.2 ≠ o)) → u.routes s = ((pickT s t.a t.b).routes s).filter fun x => decide (x.o ≠ o) := fun s u hu => by
    unfold Tr.routes
    rw [hu, List.filter_map]
    rfl
  have ka := k false _ (dels_toL h.oka h.okb o false)
  have kb := k true _ (dels_toL h.oka h.okb o true)
  show (dels o false (routes2 t.a t.b) t.a).routes false ++ (dels o true (routes2 t.a t.b) t.b).routes true = noO o (routes2 t.a t.b)
  unfold noO
  rw [show routes2 t.a t.b = t.a.routes false ++ t.b.routes true from rfl, List.filter_append]
  exact congr (congrArg _ ka) kb
theorem drop_fit {t : Tm} (h : t.Fit) (o : Int) : (dropT t o).Fit := fit_all h o
theorem wpList_rowOne {P : Program} {ops : Array Oper} {rest : List Oper} {o : Oper} {a : Act} {w : World} {Q : Exit → Act → World → Prop} (hg : o.guard = none) (t e : TypeId) (x : Operand) (ho : o.op = .buildSlice t 1 #[(0, x)])
    (v : Value) (hx : a.eval x = v) (hu : P.underlying t = some (.slice e)) (cells : Array Value) (hb : P.builtSlice e 1 [(0, v)] = some cells)
    (h : wpList P ops Q rest (a.put o.dst (.slice (some ⟨w.heap.size, 0, none⟩) 1 1)) (w.alloc (.cells cells e))) : wpList P ops Q (o :: rest) a w := by
  have e1 : P.builtSlice e 1 ((#[(0, x)] : Array (Nat × Operand)).map fun (i, x) => (i, a.eval x)).toList = some cells := by simpa [hx] using hb
  exact Great.wpList_buildSliceTo hg t e 1 _ ho _ rfl _ rfl hu cells e1 h
structure NoW (w : World) (M : List Rt) (A : Option Addr) (c : Nat) (X : World) : Prop where
  row : X.ownsRow w.heap.size 41 19 (.slice A M.length c) M.length (flatR M)
  bel : Below w.heap.size w X
set_option maxRecDepth 100000 in
set_option maxHeartbeats 4000000 in
theorem refDrop_any {w : World} {A : Option Addr} {L : List Rt} (c : Nat) (h : RdQ w A L) (hL : L.length ≤ 1000) (o : Int) :
    Calls Try.prog 24 #[.slice A L.length c, .int .i64 o] w fun e w' => ∃ A' c', e = .returned (.slice A' (noO o L).length c') ∧ RdQ w' A' (noO o L) ∧ Below w.heap.size w w' := by
  have HR := Lib.hid h
  obtain ⟨n, hn⟩ : ∃ n, L.length = n := ⟨_, rfl⟩
  rw [hn] at hL ⊢
  have HN := Lib.hid hn
  clear h hn
  go_enter Try.func24, Try.ntmps24
  go_wp2_with fail
  go_loopw [5, 6] (fun out i X => ∃ (k : Nat) (A' : Option Addr) (c' : Nat), k ≤ n ∧ i = .int .i64 (k : Nat) ∧ out = .slice A' (noO o (L.take k)).length c' ∧ NoW w (noO o (L.take k)) A' c' X) (fun _ i _ => n - (intOf i).toNat)
  case atStart => exact ⟨0, none, 0, Nat.zero_le _, rfl, rfl, ⟨⟨rfl, .inl ⟨rfl, rfl⟩⟩, Below.refl _ _⟩⟩
  case round =>
    obtain ⟨k, A', c', hk, rfl, rfl, hW⟩ := hrel
    have HW := Lib.hid hW
    clear hW
    by_cases hlt : k < n
    · have hkL : k < L.length := by rw [HN.out]; exact hlt
      have hx := List.getElem?_eq_getElem hkL
      have hts : L.take (k + 1) = L.take k ++ [L[k]] := List.take_succ_eq_append_getElem hkL
      generalize L[k] = x at hx hts
      obtain ⟨g, rfl, hgl, hrg⟩ := HR.out.out k x hx
      have HTS := Lib.hid (show noO o (L.take (k + 1)) = if x.o = o then noO o (L.take k) else noO o (L.take k) ++ [x] from by rw [hts, noO_snoc])
      have HMK := Lib.hid (show (noO o (L.take k)).length ≤ k from Nat.le_trans (List.length_filter_le _ _) (by rw [List.length_take]; omega))
      have HRG := Lib.hid (range_below hrg HW.out.bel hgl)
      have hc := HRG.out 18 _ (show x.cells[18]? = some (.int .i64 x.o) from x.own)
      have HB2 := Lib.hid (built_refr x)
      have HXC := Lib.hid (show x.cells.length = 19 ∧ ∀ u ∈ x.cells, u.oneCell' = true from ⟨x.len, x.each⟩)
      have HFS := Lib.hid (show flatR (noO o (L.take k) ++ [x]) = flatR (noO o (L.take k)) ++ x.cells from flatR_snoc _ _)
      obtain ⟨C, hC⟩ : ∃ C, x.cells = C := ⟨_, rfl⟩
      rw [hC] at HRG HB2 HXC HFS
      obtain ⟨M, hM⟩ : ∃ M, noO o (L.take k) = M := ⟨_, rfl⟩
      rw [hM] at HTS HMK HFS HW ⊢
      obtain ⟨j, hj⟩ : ∃ j, M.length = j := ⟨_, rfl⟩
      have HJ := Lib.hid hj
      rw [hj] at HMK ⊢
      have hjk := HMK.out
      have hown := HW.out.row
      rw [hj] at hown
      have HOWN := Lib.hid hown
      clear hx hts hgl hrg hkL hC hM hj hown
      by_cases hxo : x.o = o
      · have HXO := Lib.hid hxo
        have ht : (x.o != o) = false := by simp [hxo]
        rw [if_pos hxo] at HTS
        clear hxo
        go_wp2_with fail
        go_round
        case rel => exact ⟨k + 1, A', c', by omega, by go_num, by rw [HTS.out, HJ.out], by rw [HTS.out]; exact HW.out⟩
        case measure => simp only [intOf]; omega
      · have ht : (x.o != o) = true := by simp [hxo]
        rw [if_neg hxo] at HTS
        clear hxo
        go_wp2_with (first
          | (refine wpList_load_mid rfl 41 (.tmp 23) rfl g (k * 19) (by go_simp) C _ HRG.out rfl rfl (by rw [HXC.out.1]; kernel_rfl) ?_)
          | (refine wpList_rowOne rfl 24 41 (.tmp 24) rfl (.agg C.toArray) rfl Try.underlying24 C.toArray HB2.out ?_)
          | (at_builtin; refine wpList_pushS (w := wr) C 19 rfl _ _ 24 41 (.agg (routeL false nought 0 0).toArray) 40 Try.underlying24 info_refr (by show (routeL false nought 0 0).toArray.size = 19; rw [List.size_toArray, routeL_length]) (by omega) rfl rfl rfl HOWN.out HW.out.bel.size HXC.out.1 HXC.out.2 (by omega) (by omega) ?_; intro A2 c2 w3 hown hbel; have H3 := Lib.hid (show NoW w (M ++ [x]) A2 c2 w3 from ⟨by rw [List.length_append, List.length_singleton, HJ.out, HFS.out]; exact hown, HW.out.bel.trans hbel⟩); clear hown hbel))
        go_round
        case rel => exact ⟨k + 1, A2, c2, by omega, by go_num, by rw [HTS.out, List.length_append, List.length_singleton, HJ.out], by rw [HTS.out]; exact H3.out⟩
        case measure => simp only [intOf]; omega
    · obtain rfl : k = n := by omega
      have hall : L.take k = L := List.take_of_length_le (Nat.le_of_eq HN.out)
      rw [hall] at HW ⊢
      clear hall
      go_wp2_with fail
      go_ret
      exact ⟨A', c', rfl, rdQ_of (rdR_own HW.out.row), HW.out.bel⟩
set_option maxRecDepth 100000 in
set_option maxHeartbeats 8000000 in
theorem walk0 {w : World} {A : Option Addr} {n c : Nat} {Q : Nat → Opm} (h : IsOps w A n Q) (hn : n ≤ 9223372036854775807) (o : Int) :
    Calls Try.prog 7 #[.slice A n c, .int .i64 o] w fun e w' => e = .returned (.bool true) ∧ Below w.heap.size w w' := by
  have HPL := Lib.hid (played_any (c := c) h hn)
  have hfit0 : (playT Q emT (min n 80)).Fit := play_fit em_fit fun i hi => h.ok i (by omega)
  obtain ⟨T, hT⟩ : ∃ T, playT Q emT (min n 80) = T := ⟨_, rfl⟩
  rw [hT] at HPL hfit0
  clear hT h
  have HROU := Lib.hid (show ∀ (U : Tm) (_ : U.Fit) (X : World) (q : Option Nat), TrW X U q → Calls Try.prog 17 #[ptrV q] X fun e w' => ∃ R, e = .returned (.slice R U.L.length U.L.length) ∧ RdR w' R (flatR U.L) ∧ Below X.heap.size X w' from fun U hU X q h => routes_any h (Nat.le_trans hU.len (by decide)))
  have HCNT := Lib.hid (show ∀ (U : Tm) (_ : U.Fit) (X : World) (q : Option Nat), TrW X U q → Calls Try.prog 14 #[ptrV q] X fun e w' => e = .returned (.int .i64 (U.L.length : Nat)) ∧ Below X.heap.size X w' from fun U hU X q h => count_any h (Nat.le_trans hU.len (by decide)))
  have HDA := Lib.hid (show ∀ (U : Tm) (_ : U.Fit) (X : World) (q : Option Nat) (o : Int), TrW X U q → Calls Try.prog 23 #[ptrV q, .int .i64 o] X fun e w' => ∃ r, e = .returned (.pointer (some ⟨r, 0, none⟩)) ∧ TrW w' (dropT U o) (some r) ∧ Below X.heap.size X w' from fun U hU X q o h => dropAll_any h hU.oka hU.okb o)
  have HAS := Lib.hid (fun (L : List Rt) (hL : L.length ≤ 64) (X : World) (A : Option Addr) (c : Nat) (h : RdQ X A L) => as_any c h (Nat.le_trans hL (by decide)))
  have hd := drop_fit hfit0 o
  have hdl := drop_L hfit0 o
  have HSA := Lib.hid (fun (X : World) (A A2 : Option Addr) (c c2 : Nat) (h : RdQ X A (noO o T.L)) (h2 : RdQ X A2 (noO o T.L)) => same_any c c2 h h2 (hdl ▸ Nat.le_trans hd.len (by decide)) (hdl ▸ Nat.le_trans hd.len (by decide)) (hdl ▸ fun x hx => (hd.own x hx).1) (hdl ▸ fun x hx => (hd.own x hx).1) true ⟨fun _ => rfl, fun _ => rfl⟩)
  have HRD := Lib.hid (fun (X : World) (A : Option Addr) (c : Nat) (h : RdQ X A T.L) => refDrop_any c h (Nat.le_trans hfit0.len (by decide)) o)
  have HFT := Lib.hid hfit0
  have HDF := Lib.hid (And.intro hd hdl)
  obtain ⟨m, hm⟩ : ∃ m, T.L.length = m := ⟨_, rfl⟩
  have HMM := Lib.hid hm
  have HR1 := Lib.hid (HROU.out T hfit0)
  have HR2 := Lib.hid (HROU.out (dropT T o) hd)
  have HD1 := Lib.hid (fun X q h => HDA.out T hfit0 X q o h)
  have HA1 := Lib.hid (HAS.out T.L hfit0.len)
  have HA2 := Lib.hid (HAS.out (noO o T.L) (hdl ▸ hd.len))
  have hr2 := HR2.out
  rw [hdl] at hr2
  have HR2 := Lib.hid hr2
  have HM64 := Lib.hid (hm ▸ hfit0.len)
  rw [hm] at HR1 HA1 HRD
  obtain ⟨D, hD⟩ : ∃ D, noO o T.L = D := ⟨_, rfl⟩
  obtain ⟨j, hj⟩ : ∃ j, D.length = j := ⟨_, rfl⟩
  rw [hD] at HSA HRD HA2 HR2
  rw [hj] at HSA HRD HA2 HR2
  clear hfit0 hd hdl hm hr2 hD hj
  go_enter Try.func7, Try.ntmps7
  go_upto_region 2 with (go_at_call 19; refine HPL.out.mono ?_; rintro e X1 ⟨q, rfl, ht, hb⟩; have HX1 := Lib.hid (And.intro ht hb); clear ht hb HPL)
  go_upto_region 3 with (first
    | (go_at_call 17; refine (HR1.out _ q HX1.out.1).mono ?_; rintro e X2 ⟨R, rfl, hr, hb⟩; have HX2 := Lib.hid (show RdQ X2 R T.L ∧ TrW X2 T q ∧ Below w.heap.size w X2 from ⟨rdQ_of hr, HX1.out.1.below hb, HX1.out.2.trans (hb.mono HX1.out.2.size)⟩); clear hr hb HX1)
    | (go_at_call 16; refine (HA1.out _ R m HX2.out.1).mono ?_; rintro e X3 ⟨R2, cr2, rfl, hr, hb⟩; have HX3 := Lib.hid (show RdQ X3 R2 T.L ∧ TrW X3 T q ∧ Below w.heap.size w X3 from ⟨hr, HX2.out.2.1.below hb, HX2.out.2.2.trans (hb.mono HX2.out.2.2.size)⟩); clear hr hb HX2))
  go_upto_region 4 with (go_at_call 23; refine (HD1.out _ q HX3.out.2.1).mono ?_; rintro e X4 ⟨r, rfl, ht, hb⟩; have HX4 := Lib.hid (show RdQ X4 R2 T.L ∧ TrW X4 (dropT T o) (some r) ∧ Below w.heap.size w X4 from ⟨HX3.out.1.below hb (Nat.le_refl _), ht, HX3.out.2.2.trans (hb.mono HX3.out.2.2.size)⟩); clear ht hb HX3)
  go_wp2_with fail
  refine (HR2.out _ (some r) HX4.out.2.1).mono ?_
  rintro e X5 ⟨R3, rfl, hr, hb⟩
  have HX5 := Lib.hid (show RdQ X5 R3 D ∧ RdQ X5 R2 T.L ∧ TrW X5 (dropT T o) (some r) ∧ Below w.heap.size w X5 from ⟨rdQ_of hr, HX4.out.1.below hb (Nat.le_refl _), HX4.out.2.1.below hb, HX4.out.2.2.trans (hb.mono HX4.out.2.2.size)⟩)
  clear hr hb HX4
  go_wp2_with fail
  refine (HA2.out _ R3 j HX5.out.1).mono ?_
  rintro e X6 ⟨R4, cr4, rfl, hr, hb⟩
  have HX6 := Lib.hid (show RdQ X6 R4 D ∧ RdQ X6 R2 T.L ∧ TrW X6 (dropT T o) (some r) ∧ Below w.heap.size w X6 from ⟨hr, HX5.out.2.1.below hb (Nat.le_refl _), HX5.out.2.2.1.below hb, HX5.out.2.2.2.trans (hb.mono HX5.out.2.2.2.size)⟩)
  clear hr hb HX5
  go_wp2_with fail
  refine (HRD.out _ R2 cr2 HX6.out.2.1).mono ?_
  rintro e X7 ⟨R5, cr5, rfl, hr, hb⟩
  have HX7 := Lib.hid (show RdQ X7 R4 D ∧ RdQ X7 R5 D ∧ RdQ X7 R2 T.L ∧ TrW X7 (dropT T o) (some r) ∧ Below w.heap.size w X7 from ⟨HX6.out.1.below hb (Nat.le_refl _), hr, HX6.out.2.1.below hb (Nat.le_refl _), HX6.out.2.2.1.below hb, HX6.out.2.2.2.trans (hb.mono HX6.out.2.2.2.size)⟩)
  clear hr hb HX6
  go_wp2_with fail
  refine (HSA.out _ R4 R5 cr4 cr5 HX7.out.1 HX7.out.2.1).mono ?_
  rintro e X8 ⟨rfl, hb⟩
  have HX8 := Lib.hid (show RdQ X8 R2 T.L ∧ TrW X8 (dropT T o) (some r) ∧ Below w.heap.size w X8 from ⟨HX7.out.2.2.1.below hb (Nat.le_refl _), HX7.out.2.2.2.1.below hb, HX7.out.2.2.2.2.trans (hb.mono HX7.out.2.2.2.2.size)⟩)
  clear hb HX7
  go_wp2_with fail
  go_loopw [7, 8] (fun t7 t8 X => ∃ (k : Nat) (U : Tm) (u : Option Nat), k ≤ m ∧ t8 = .int .i64 k ∧ t7 = ptrV u ∧ TrW X U u ∧ U.Fit ∧ (∀ x ∈ U.L, x ∈ T.L ∧ ∀ y ∈ T.L.take k, x.o ≠ y.o) ∧ RdQ X R2 T.L ∧ Below w.heap.size w X) (fun _ i _ => m - (intOf i).toNat)
  case atStart => exact ⟨0, dropT T o, some r, Nat.zero_le _, rfl, rfl, HX8.out.2.1, HDF.out.1, fun x hx => ⟨(by rw [HDF.out.2] at hx; exact (List.mem_filter.1 hx).1), fun y hy => by cases hy⟩, HX8.out.1, HX8.out.2.2⟩
  case round =>
    have hm64 := HM64.out
    obtain ⟨k, U, u, hk, rfl, rfl, hW, hUF, hUL, hR, hB⟩ := hrel
    have HW := Lib.hid (show TrW wr U u ∧ RdQ wr R2 T.L ∧ Below w.heap.size w wr from ⟨hW, hR, hB⟩)
    have HUF := Lib.hid (And.intro hUF hUL)
    clear hW hR hB hUF hUL
    by_cases hlt : k < m
    · have hkL : k < T.L.length := by rw [HMM.out]; exact hlt
      have hx := List.getElem?_eq_getElem hkL
      have hts : T.L.take (k + 1) = T.L.take k ++ [T.L[k]] := List.take_succ_eq_append_getElem hkL
      generalize T.L[k] = x at hx hts
      obtain ⟨g, rfl, hgl, hrg⟩ := HW.out.2.1.out k x hx
      have hc := hrg 18 _ (show x.cells[18]? = some (.int .i64 x.o) from x.own)
      have HN := Lib.hid (show (dropT U x.o).Fit ∧ ∀ z ∈ (dropT U x.o).L, z ∈ T.L ∧ ∀ y ∈ T.L.take (k + 1), z.o ≠ y.o from ⟨drop_fit HUF.out.1 _, fun z hz => by
        rw [drop_L HUF.out.1] at hz
        obtain ⟨h1, h2⟩ := List.mem_filter.1 hz
        have h2 := of_decide_eq_true h2
        refine ⟨(HUF.out.2 z h1).1, fun y hy => ?_⟩
        rw [hts] at hy
        rcases List.mem_append.1 hy with hy | hy
        · exact (HUF.out.2 z h1).2 y hy
        · rw [List.mem_singleton.1 hy]; exact h2⟩)
      clear hx hts hgl hrg hkL
      go_wp2_with (go_at_call 23; refine (HDA.out U HUF.out.1 _ u x.o HW.out.1).mono ?_; rintro e X9 ⟨r9, rfl, ht, hb⟩; have HX9 := Lib.hid (show TrW X9 (dropT U x.o) (some r9) ∧ RdQ X9 (some ⟨g, 0, none⟩) T.L ∧ Below w.heap.size w X9 from ⟨ht, HW.out.2.1.below hb (Nat.le_refl _), HW.out.2.2.trans (hb.mono HW.out.2.2.size)⟩); clear ht hb)
      go_round
      case rel => exact ⟨k + 1, dropT U x.o, some r9, by omega, by go_num, rfl, HX9.out.1, HN.out.1, HN.out.2, HX9.out.2.1, HX9.out.2.2⟩
      case measure => simp only [intOf]; omega
    · obtain rfl : k = m := by omega
      have hnil : U.L = [] := by
        have hall : T.L.take k = T.L := List.take_of_length_le (Nat.le_of_eq HMM.out)
        cases hUL : U.L with
        | nil => rfl
        | cons x l =>
          have := HUF.out.2 x (by rw [hUL]; exact List.mem_cons_self)
          rw [hall] at this
          exact absurd rfl (this.2 x this.1)
      have hc0 := HCNT.out U HUF.out.1
      have hr0 := HROU.out U HUF.out.1
      rw [hnil] at hc0 hr0
      have HC0 := Lib.hid hc0
      have HR0 := Lib.hid hr0
      clear hnil hc0 hr0
      go_upto_region 10 with fail
      go_wp2_with fail
      refine (alive_any _).mono ?_
      rintro e Y1 ⟨rfl, hb1⟩
      have HY1 := Lib.hid (show TrW Y1 U u ∧ Below w.heap.size w Y1 from ⟨HW.out.1.below hb1, HW.out.2.2.trans (hb1.mono HW.out.2.2.size)⟩)
      clear hb1 HW
      go_wp2_with fail
      refine (HC0.out _ u HY1.out.1).mono ?_
      rintro e Y2 ⟨rfl, hb2⟩
      have HY2 := Lib.hid (show TrW Y2 U u ∧ Below w.heap.size w Y2 from ⟨HY1.out.1.below hb2, HY1.out.2.trans (hb2.mono HY1.out.2.size)⟩)
      clear hb2 HY1
      go_wp2_with fail
      refine (HR0.out _ u HY2.out.1).mono ?_
      rintro e Y3 ⟨R9, rfl, _, hb3⟩
      have HBE := Lib.hid (HY2.out.2.trans (hb3.mono HY2.out.2.size))
      clear hb3 HY2
      go_wp2_with fail
      go_ret
      exact ⟨rfl, HBE.out⟩
theorem walk (A : Option Addr) (n c : Nat) (o : Int) (w : World) (h : Shp.Good w (.list (.obj shO)) [.slice A n c]) (_ : (Lit.int .i64 o).wf = true) : Calls Try.prog 7 #[.slice A n c, .int .i64 o] w fun e w' => e = .returned (.bool true) ∧ Below w.heap.size w w' := by
  obtain ⟨hn, Q, hQ⟩ := open_ops h
  exact walk0 hQ hn o
end TrieOwners
end Go.Proofs.Ytcpfchfhcfdcpaa
