/- The document's own Put. -/
import Derived.Test.YtcpfchfhcfdcpaaTlFind
namespace Go.Proofs.Ytcpfchfhcfdcpaa
namespace Tri
open Go.ChangeShapes Go.WideShapes Go.ChangeAt Go.RowKit
open Num Mem Words Chacha Aead Poly Quiet Ops Adr RowS

/-- does a route stand before a prefix? -/
def befR (s : Bool) (p : Bs) (y : Rt) : Bool := befB y.s s y.p p
def stP (F G : Rt → Bool) (x : Rt) (o : List Rt × Bool) (y : Rt) : List Rt × Bool :=
  let o1 := if o.2 = false ∧ G y = false then (o.1 ++ [x], true) else o
  if F y = true then o1 else (o1.1 ++ [y], o1.2)
def foP (F G : Rt → Bool) (x : Rt) (L : List Rt) : List Rt × Bool := L.foldl (stP F G x) ([], false)
def enP (x : Rt) (r : List Rt × Bool) : List Rt := if r.2 = true then r.1 else r.1 ++ [x]
theorem fo_snoc (F G : Rt → Bool) (x : Rt) (L : List Rt) (y : Rt) : foP F G x (L ++ [y]) = stP F G x (foP F G x L) y := by unfold foP; rw [List.foldl_append]; rfl
theorem fo_len (F G : Rt → Bool) (x : Rt) (o : List Rt × Bool) (y : Rt) : (stP F G x o y).1.length ≤ o.1.length + 2 := by
  unfold stP
  by_cases h1 : o.2 = false ∧ G y = false <;> by_cases h2 : F y = true <;> simp [h1, h2]
theorem fo_length (F G : Rt → Bool) (x : Rt) (L : List Rt) : ∀ k, k ≤ L.length → (foP F G x (L.take k)).1.length ≤ 2 * k
  | 0, _ => by simp [foP]
  | k + 1, h => by
    have := fo_length F G x L k (by omega)
    rw [List.take_succ_eq_append_getElem (show k < L.length by omega), fo_snoc]
    have h2 := fo_len F G x (foP F G x (L.take k)) L[k]
    omega
theorem own_cap {X : World} {B e n c size : Nat} {A : Option Addr} {xs : List Value} (h : X.ownsRow B e size (.slice A n c) n xs) : n ≤ c := by
  rcases h.2 with ⟨h0, h1⟩ | ⟨g, cap, cur, hv, _, _, h1, _⟩
  · omega
  · injection hv with _ _ e
    omega
theorem own_caps {X : World} {B e n c size : Nat} {A : Option Addr} {xs : List Value} (h : X.ownsRow B e size (.slice A n c) n xs) : n ≤ c ∧ c ≤ 9223372036854775807 := by
  have hm : maxLen = 9223372036854775807 := rfl
  rcases h.2 with ⟨h0, h1⟩ | ⟨g, cap, cur, hv, _, _, h1, h2, _⟩
  · injection h0 with _ _ e
    omega
  · injection hv with _ _ e
    omega
structure PvW (w : World) (B : Nat) (PG : List Value) (A : Option Addr) (c : Nat) (M : List Rt) (X : World) : Prop where
  p : Whole X B 29 PG.toArray
  own : X.ownsRow (B + 1) 41 19 (.slice A M.length c) M.length (flatR M)
  bel : Below B w X
theorem PvW.below {w : World} {B : Nat} {PG : List Value} {A : Option Addr} {c : Nat} {M : List Rt} {X Y : World} (h : PvW w B PG A c M X) (hb : Below X.heap.size X Y) : PvW w B PG A c M Y :=
  ⟨h.p.below hb h.p.lt, owns_same h.own fun _ _ hw _ => hw.below hb hw.lt, h.bel.trans (hb.mono (Nat.le_of_lt h.p.lt))⟩
theorem PvW.push {w : World} {B : Nat} {PG : List Value} {A A' : Option Addr} {c c' : Nat} {M : List Rt} {x : Rt} {X Y : World} (h : PvW w B PG A c M X) (hb : Below (B + 1) X Y) (ho : Y.ownsRow (B + 1) 41 19 (.slice A' (M.length + 1) c') (M.length + 1) (flatR M ++ x.cells)) : PvW w B PG A' c' (M ++ [x]) Y :=
  ⟨h.p.below hb (Nat.lt_succ_self _), by rw [List.length_append, List.length_singleton, flatR_snoc]; exact ho, h.bel.trans (hb.mono (Nat.le_succ _))⟩
def rPutE (s : Bool) (g : Nat → Nat) (z o : Int) (L : List Rt) : Nat := if rightPB s g z = false then 41 else if o < 1 then 1 else if getB L s g z = false ∧ 64 ≤ L.length then 5 else 0
def rPutL (s : Bool) (g : Nat → Nat) (z o : Int) (L : List Rt) : List Rt := if rPutE s g z o L = 0 then enP ⟨s, bs g z.toNat, o⟩ (foP (isP s g z) (befR s (bs g z.toNat)) ⟨s, bs g z.toNat, o⟩ L) else []
set_option maxRecDepth 100000 in
set_option maxHeartbeats 4000000 in
theorem rPut_any {w : World} {A : Option Addr} {L : List Rt} (c : Nat) (h : RdQ w A L) (hL : L.length ≤ 1000) (fL : Fits L) (hU : ∀ (j k : Nat) (y x : Rt) (s : Bool) (g : Nat → Nat) (z : Int), L[j]? = some y → L[k]? = some x → isP s g z y = true → isP s g z x = true → j = k) (s : Bool) (g : Nat → Nat) (hg : ∀ i, g i < 256) (z o : Int) :
    Calls Try.prog 25 #[.slice A L.length c, .agg (prefL s g z).toArray, .int .i64 o] w fun e w' => ∃ A' c', e = .returned (.tuple #[.slice A' (rPutL s g z o L).length c', .int .i64 (rPutE s g z o L : Nat)]) ∧ RdQ w' A' (rPutL s g z o L) ∧ ((rPutL s g z o L).length ≤ c' ∧ c' ≤ 9223372036854775807) ∧ Below w.heap.size w w' := by
  have HPA := Lib.hid (fun (X : World) (h : RdQ X A L) => place_any c h hL s g hg z)
  have HRP := Lib.hid (fun (X : World) => rRightP_any s g hg z X)
  have HBE := Lib.hid (fun (hr : rightPB s g z = true) (y : Rt) (hy : (y.p.length : Int) ≤ digitsI y.s) (X : World) => (show Calls Try.prog 40 #[.agg (prefL y.s (byt y.p) (y.p.length : Int)).toArray, .agg (prefL s g z).toArray] X fun e w' => e = .returned (.bool (befR s (bs g z.toNat) y)) ∧ Below X.heap.size X w' from by
    obtain ⟨n, rfl, hr2⟩ := right_nat hr
    rw [Int.toNat_natCast]
    have := rBefore_any y.s (byt y.p) (byt_lt y.p) y.p.length (right_byt hy) s g hg n hr2 X
    rw [bs_byt] at this
    exact this))
  have HRT := Lib.hid (show rightPB s g z = true → routeL s g z o = (Rt.mk s (bs g z.toNat) o).cells from fun hr => by
    obtain ⟨n, rfl, hr2⟩ := right_nat hr
    rw [Int.toNat_natCast]
    exact route_byt hg hr2 o)
  have HUU := Lib.hid (fun (j k : Nat) (y x : Rt) => hU j k y x s g z)
  have HGB := Lib.hid (show ∀ r, PlR L (isP s g z) r → (getB L s g z = false ↔ r < 0) from fun r h => by
    rcases h with ⟨k, x, rfl, h1, h2, h3⟩ | ⟨rfl, h1⟩
    · rw [(plr_get h1 h2 h3).2]; simp
    · rw [(get_none h1).2]; simp)
  have HPB := Lib.hid (show Try.prog.built 41 [(0, .agg (prefL s g z).toArray), (1, .int .i64 o)] = some (routeL s g z o).toArray by kernel_rfl)
  have HPL := Lib.hid (prefL_length s g z)
  have HFI := Lib.hid fL
  have HPE := Lib.hid (show rPutE s g z o L = if rightPB s g z = false then 41 else if o < 1 then 1 else if getB L s g z = false ∧ 64 ≤ L.length then 5 else 0 from rfl)
  have HPV := Lib.hid (show rPutL s g z o L = if rPutE s g z o L = 0 then enP ⟨s, bs g z.toNat, o⟩ (foP (isP s g z) (befR s (bs g z.toNat)) ⟨s, bs g z.toNat, o⟩ L) else [] from rfl)
  obtain ⟨PG, hPG⟩ : ∃ P, prefL s g z = P := ⟨_, rfl⟩
  obtain ⟨F, hF⟩ : ∃ F, isP s g z = F := ⟨_, rfl⟩
  obtain ⟨G, hG⟩ : ∃ F, befR s (bs g z.toNat) = F := ⟨_, rfl⟩
  obtain ⟨NX, hNX⟩ : ∃ x, Rt.mk s (bs g z.toNat) o = x := ⟨_, rfl⟩
  obtain ⟨RB, hRB⟩ : ∃ r, rightPB s g z = r := ⟨_, rfl⟩
  obtain ⟨GB, hGB⟩ : ∃ r, getB L s g z = r := ⟨_, rfl⟩
  obtain ⟨RC, hRC⟩ : ∃ r, routeL s g z o = r := ⟨_, rfl⟩
  obtain ⟨n, hn⟩ : ∃ n, L.length = n := ⟨_, rfl⟩
  generalize rPutL s g z o L = RES at HPV ⊢
  generalize rPutE s g z o L = PE at HPV HPE ⊢
  rw [hPG] at HPA HRP HBE HPB HPL ⊢
  rw [hF] at HPA HUU HGB HPV
  rw [hG] at HBE HPV
  rw [hNX] at HRT HPV
  rw [hRB] at HRP HBE HRT HPE
  rw [hGB] at HGB HPE
  rw [hRC] at HRT HPB
  rw [hn] at HPA HPE hL ⊢
  have HN := Lib.hid hn
  have HR := Lib.hid h
  clear hPG hF hG hNX hRB hGB hRC hn h hg hU fL
  go_enter Try.func25, Try.ntmps25
  go_upto_region 1 with fail
  refine cut_world (fun X => PvW w w.heap.size PG none 0 [] X) ⟨Whole.new _ _ _, ⟨rfl, .inl ⟨rfl, rfl⟩⟩, below_alloc (Below.refl _ _) _⟩ ?_
  intro W hW
  have HRD := Lib.hid (fun (X : World) (hX : Below w.heap.size w X) => HR.out.below hX (Nat.le_refl _))
  generalize hB : w.heap.size = B at hW HRD ⊢
  have HB := Lib.hid hB
  have HW := Lib.hid hW
  clear hB hW HR
  cases RB with
  | false =>
    have hE : PE = 41 := by rw [HPE.out, if_pos rfl]
    have hV : RES = [] := by rw [HPV.out, if_neg (by rw [hE]; decide)]
    have HEV := Lib.hid (And.intro hE hV)
    clear hE hV
    go_wp2_with (first
      | (refine Poly.wpList_load_row_if rfl 29 (.tmp 4) rfl B rfl 29 PG _ HW.out.p rfl rfl (by rw [HPL.out]; kernel_rfl) ?_)
      | (go_at_call 39; refine (HRP.out _).mono ?_; rintro e w1 ⟨rfl, hb1⟩; have HW1 := Lib.hid (HW.out.below hb1); clear hb1))
    go_ret2
    exact ⟨none, 0, by rw [HEV.out.1, HEV.out.2]; rfl, by rw [HEV.out.2]; exact ⟨fun k x h => by simp at h⟩, by rw [HEV.out.2]; exact ⟨Nat.le_refl _, Nat.zero_le _⟩, by rw [HB.out]; exact HW1.out.bel⟩
  | true =>
    by_cases ho1 : o < 1
    · have hE : PE = 1 := by rw [HPE.out, if_neg (by decide), if_pos ho1]
      have hV : RES = [] := by rw [HPV.out, if_neg (by rw [hE]; decide)]
      have HEV := Lib.hid (And.intro hE hV)
      have hd : decide (o < 1) = true := decide_eq_true ho1
      clear hE hV ho1
      go_wp2_with (first
        | (refine Poly.wpList_load_row_if rfl 29 (.tmp 4) rfl B rfl 29 PG _ HW.out.p rfl rfl (by rw [HPL.out]; kernel_rfl) ?_)
        | (go_at_call 39; refine (HRP.out _).mono ?_; rintro e w1 ⟨rfl, hb1⟩; have HW1 := Lib.hid (HW.out.below hb1); clear hb1))
      go_ret2
      exact ⟨none, 0, by rw [HEV.out.1, HEV.out.2]; rfl, by rw [HEV.out.2]; exact ⟨fun k x h => by simp at h⟩, by rw [HEV.out.2]; exact ⟨Nat.le_refl _, Nat.zero_le _⟩, by rw [HB.out]; exact HW1.out.bel⟩
    · have hd : decide (o < 1) = false := decide_eq_false ho1
      have HO1 := Lib.hid ho1
      clear ho1
      go_upto_region 6 with (first
        | (refine Poly.wpList_load_row_if rfl 29 (.tmp 4) rfl B rfl 29 PG _ HW.out.p rfl rfl (by rw [HPL.out]; kernel_rfl) ?_)
        | (go_at_call 39; refine (HRP.out _).mono ?_; rintro e w1 ⟨rfl, hb1⟩; replace HW := Lib.hid (HW.out.below hb1); clear hb1)
        | (go_at_call 29; refine (HPA.out _ (HRD.out _ HW.out.bel)).mono ?_; rintro e w2 ⟨r, rfl, hpl, hb1⟩; have HW2 := Lib.hid (HW.out.below hb1); clear hb1))
      have HAT := Lib.hid (show ∀ (j : Nat) (y : Rt), L[j]? = some y → ((j : Int) = r ↔ F y = true) from fun j y hj => by
        rcases hpl with ⟨k, x, rfl, h1, h2, h3⟩ | ⟨rfl, h1⟩
        · refine ⟨fun e => ?_, fun e => ?_⟩
          · obtain rfl : j = k := by omega
            rw [h1] at hj
            exact Option.some.inj hj ▸ h2
          · rw [HUU.out j k y x hj h1 e h2]
        · refine ⟨fun e => by omega, fun e => ?_⟩
          rw [h1 y (List.mem_of_getElem? hj)] at e
          cases e)
      have HGR := Lib.hid (HGB.out r hpl)
      clear hpl HGB HUU
      by_cases hfull : r < 0 ∧ 64 ≤ n
      · have hE : PE = 5 := by rw [HPE.out, if_neg (by decide), if_neg (Int.not_lt.2 HO1.out), if_pos ⟨HGR.out.2 hfull.1, hfull.2⟩]
        have hV : RES = [] := by rw [HPV.out, if_neg (by rw [hE]; decide)]
        have HEV := Lib.hid (And.intro hE hV)
        have hd1 : decide (r < 0) = true := decide_eq_true hfull.1
        have hd2 : decide ((64 : Int) ≤ (n : Int)) = true := decide_eq_true (by omega)
        clear hE hV hfull
        go_wp2_with fail
        go_ret2
        exact ⟨none, 0, by rw [HEV.out.1, HEV.out.2]; rfl, by rw [HEV.out.2]; exact ⟨fun k x h => by simp at h⟩, by rw [HEV.out.2]; exact ⟨Nat.le_refl _, Nat.zero_le _⟩, by rw [HB.out]; exact HW2.out.bel⟩
      · have hE : PE = 0 := by rw [HPE.out, if_neg (by decide), if_neg (Int.not_lt.2 HO1.out), if_neg (fun h => hfull ⟨HGR.out.1 h.1, h.2⟩)]
        have hV : RES = enP NX (foP F G NX L) := by rw [HPV.out, if_pos hE]
        have HEV := Lib.hid (And.intro hE hV)
        have hr64 : (decide (r < 0) = true → decide ((64 : Int) ≤ (n : Int)) = false) := fun h => decide_eq_false (fun h2 => hfull ⟨of_decide_eq_true h, by omega⟩)
        have hr0 : decide (r < 0) = true ∨ decide (r < 0) = false := by cases decide (r < 0) <;> simp
        have HLE := Lib.hid (fun k (hk : k ≤ n) => fo_length F G NX L k (by rw [HN.out]; exact hk))
        have HBN := Lib.hid (show Try.prog.builtSlice 41 1 [(0, .agg NX.cells.toArray)] = some NX.cells.toArray from built_refr NX)
        have HNL := Lib.hid (show NX.cells.length = 19 ∧ ∀ u ∈ NX.cells, u.oneCell' = true from ⟨NX.len, NX.each⟩)
        have HNE := Lib.hid (HRT.out (by trivial))
        rw [HNE.out] at HPB
        have HNC := Lib.hid (show NX.cells = NX.cells from rfl)
        obtain ⟨NC, hNC⟩ : ∃ C, NX.cells = C := ⟨_, rfl⟩
        have HNCE := Lib.hid hNC
        rw [hNC] at HPB HBN HNL
        clear hE hV hfull HGR HPE HPV HNE HNC hNC HRT HRP HPA
        rcases hr0 with hr0 | hr0
        · have hr6 := hr64 hr0
          clear hr64
          go_wp2_with fail
          go_loopw [9, 10, 11] (fun out d i X => ∃ (k : Nat) (A' : Option Addr) (c' : Nat), k ≤ n ∧ i = .int .i64 (k : Nat) ∧ d = .bool (foP F G NX (L.take k)).2 ∧ out = .slice A' (foP F G NX (L.take k)).1.length c' ∧ PvW w B PG A' c' (foP F G NX (L.take k)).1 X) (fun _ _ i _ => n - (intOf i).toNat)
          case atStart => exact ⟨0, none, 0, Nat.zero_le _, rfl, rfl, rfl, ⟨HW2.out.p, ⟨rfl, .inl ⟨rfl, rfl⟩⟩, HW2.out.bel⟩⟩
          case round =>
            obtain ⟨k, A', c', hk, rfl, rfl, rfl, hX⟩ := hrel
            have HX := Lib.hid hX
            clear hX HW2
            have HML := Lib.hid (Nat.le_trans (HLE.out k hk) (show 2 * k ≤ 2000 by omega))
            by_cases hlt : k < n
            · have hkL : k < L.length := by rw [HN.out]; exact hlt
              have hx := List.getElem?_eq_getElem hkL
              have hup := fo_snoc F G NX (L.take k) L[k]
              rw [← List.take_succ_eq_append_getElem hkL] at hup
              have hfx := HFI.out L[k] (List.getElem_mem hkL)
              have HE := Lib.hid (HBE.out (by trivial) L[k] hfx)
              have HATX := Lib.hid (HAT.out k L[k] hx)
              generalize L[k] = x at hx hup hfx HE HATX
              obtain ⟨b, rfl, hbl, hrg⟩ := (HRD.out _ (Below.refl _ _)).out k x hx
              have HRCC := Lib.hid (show ∀ X, Below B w X → X.rangeAt b (k * 19) x.cells from fun X hX => range_below hrg hX (by rw [← HB.out]; exact hbl))
              have HRG := Lib.hid (show ∀ X, Below B w X → X.rangeAt b (k * 19) (prefL x.s (byt x.p) (x.p.length : Int)) from fun X hX j v hj => HRCC.out X hX j v (route_pre _ _ _ _ hj))
              have HXL := Lib.hid (prefL_length x.s (byt x.p) (x.p.length : Int))
              have HCL := Lib.hid (show x.cells.length = 19 ∧ ∀ u ∈ x.cells, u.oneCell' = true from ⟨x.len, x.each⟩)
              have HBC := Lib.hid (built_refr x)
              obtain ⟨PX, hPX⟩ : ∃ PX, prefL x.s (byt x.p) (x.p.length : Int) = PX := ⟨_, rfl⟩
              obtain ⟨C, hC⟩ : ∃ C, x.cells = C := ⟨_, rfl⟩
              have HCE := Lib.hid hC
              rw [hPX] at HRG HXL HE
              rw [hC] at HRCC HCL HBC
              obtain ⟨⟨M, D⟩, hst⟩ : ∃ o, foP F G NX (L.take k) = o := ⟨_, rfl⟩
              rw [hst] at hup HX HML ⊢
              have HUP := Lib.hid hup
              clear hx hup hfx hrg hbl hkL hPX hC hst
              simp only at HX HML ⊢
              cases D with
              | true =>
                go_upto_region 13 with fail
                refine q_start (by kernel_rfl) (by kernel_rfl) ?_
                refine Ops.wq_in ?_
                refine Ops.wq_take _ (by rfl) (fun X hx => by go_simp; try with_reducible rfl) ?_
                try simp only [Act.put, List.setIfInBounds_toArray, List.set_cons_zero, List.set_cons_succ]
                refine Ops.wq_take _ (by rfl) (fun X hx => by go_simp; try with_reducible rfl) ?_
                try simp only [Act.put, List.setIfInBounds_toArray, List.set_cons_zero, List.set_cons_succ]
                refine Ops.wq_take _ (by rfl) (fun X hx => by go_simp; try with_reducible rfl) ?_
                try simp only [Act.put, List.setIfInBounds_toArray, List.set_cons_zero, List.set_cons_succ]
                refine Ops.wq_pass (by rfl) ?_
                try simp only [Act.put, List.setIfInBounds_toArray, List.set_cons_zero, List.set_cons_succ]
                refine Ops.wq_pass (by rfl) ?_
                try simp only [Act.put, List.setIfInBounds_toArray, List.set_cons_zero, List.set_cons_succ]
                refine Ops.wq_pass (by rfl) ?_
                try simp only [Act.put, List.setIfInBounds_toArray, List.set_cons_zero, List.set_cons_succ]
                refine Ops.wq_pass (by rfl) ?_
                try simp only [Act.put, List.setIfInBounds_toArray, List.set_cons_zero, List.set_cons_succ]
                refine Ops.wq_pass (by rfl) ?_
                try simp only [Act.put, List.setIfInBounds_toArray, List.set_cons_zero, List.set_cons_succ]
                refine Ops.wq_pass (by rfl) ?_
                try simp only [Act.put, List.setIfInBounds_toArray, List.set_cons_zero, List.set_cons_succ]
                refine Ops.wq_pass (by rfl) ?_
                try simp only [Act.put, List.setIfInBounds_toArray, List.set_cons_zero, List.set_cons_succ]
                refine Ops.wq_pass (by rfl) ?_
                try simp only [Act.put, List.setIfInBounds_toArray, List.set_cons_zero, List.set_cons_succ]
                refine Ops.wq_take _ (by rfl) (fun X hx => by go_simp; try with_reducible rfl) ?_
                try simp only [Act.put, List.setIfInBounds_toArray, List.set_cons_zero, List.set_cons_succ]
                refine Ops.wq_end ?_
                intro w3 hb3
                have HX3 := Lib.hid (HX.out.below hb3)
                clear hb3 HX
                have HUP3 := Lib.hid (show foP F G NX (L.take (k + 1)) = if F x = true then (M, true) else (M ++ [x], true) from by rw [HUP.out]; unfold stP; simp)
                by_cases hfx : F x = true
                · have hq : (((k : Nat) : Int) != r) = false := by have := HATX.out.2 hfx; simp; omega
                  have hq2 : (((k : Nat) : Int) = r) = True := by have := HATX.out.2 hfx; simp; omega
                  have hq3 : (((k : Nat) : Int) == r) = true := by have := HATX.out.2 hfx; simp; omega
                  have HUP2 := Lib.hid (show foP F G NX (L.take (k + 1)) = (M, true) from by rw [HUP3.out, if_pos hfx])
                  clear hfx
                  go_wp2_with fail
                  go_round
                  case rel => exact ⟨k + 1, A', c', by omega, by go_num, by rw [HUP2.out], by rw [HUP2.out], by rw [HUP2.out]; exact HX3.out⟩
                  case measure => simp only [intOf]; omega
                · have hq : (((k : Nat) : Int) != r) = true := by have := fun e => hfx (HATX.out.1 e); simp; omega
                  have hq2 : (((k : Nat) : Int) = r) = False := by have := fun e => hfx (HATX.out.1 e); simp; omega
                  have hq3 : (((k : Nat) : Int) == r) = false := by have := fun e => hfx (HATX.out.1 e); simp; omega
                  have HUP2 := Lib.hid (show foP F G NX (L.take (k + 1)) = (M ++ [x], true) from by rw [HUP3.out, if_neg hfx])
                  have HRC := Lib.hid (HRCC.out _ HX3.out.bel)
                  clear hfx
                  go_wp2_with (first
                    | (refine wpList_load_mid rfl 41 (.tmp 57) rfl b (k * 19) (by go_simp) C _ HRC.out rfl rfl (by rw [HCL.out.1]; kernel_rfl) ?_)
                    | (refine TrieOwners.wpList_rowOne rfl 24 41 (.tmp 58) rfl (.agg C.toArray) rfl Try.underlying24 C.toArray HBC.out ?_)
                    | (at_builtin; refine wpList_pushS (w := w3) C 19 rfl _ _ 24 41 (.agg (routeL false nought 0 0).toArray) 40 Try.underlying24 info_refr (by show (routeL false nought 0 0).toArray.size = 19; rw [List.size_toArray, routeL_length]) (by omega) rfl rfl rfl HX3.out.own (Nat.succ_le_of_lt HX3.out.p.lt) HCL.out.1 HCL.out.2 (by have := HML.out; (try simp only [List.length_append, List.length_singleton]); omega) (by have := HML.out; (try simp only [List.length_append, List.length_singleton]); omega) ?_; intro A9 c9 w9 hown hbel; have H9 := Lib.hid (PvW.push (x := x) HX3.out hbel (by rw [HCE.out]; exact hown)); clear hown hbel))
                  go_round
                  case rel => exact ⟨k + 1, A9, c9, by omega, by go_num, by rw [HUP2.out], by rw [HUP2.out]; simp, by rw [HUP2.out]; exact H9.out⟩
                  case measure => simp only [intOf]; omega
              | false =>
                obtain ⟨gx, hgx⟩ : ∃ r, G x = r := ⟨_, rfl⟩
                rw [hgx] at HE
                cases gx with
                | true =>
                  go_upto_region 13 with fail
                  refine q_start (by kernel_rfl) (by kernel_rfl) ?_
                  refine Ops.wq_in ?_
                  refine Ops.wq_take _ (by rfl) (fun X hx => by go_simp; try with_reducible rfl) ?_
                  try simp only [Act.put, List.setIfInBounds_toArray, List.set_cons_zero, List.set_cons_succ]
                  refine Ops.wq_take _ (by rfl) (fun X hx => by go_simp; try with_reducible rfl) ?_
                  try simp only [Act.put, List.setIfInBounds_toArray, List.set_cons_zero, List.set_cons_succ]
                  refine Ops.wq_take _ (by rfl) (fun X hx => by go_simp; try with_reducible rfl) ?_
                  try simp only [Act.put, List.setIfInBounds_toArray, List.set_cons_zero, List.set_cons_succ]
                  refine Ops.wq_take _ (by rfl) (fun X hx => by go_simp; try with_reducible rfl) ?_
                  try simp only [Act.put, List.setIfInBounds_toArray, List.set_cons_zero, List.set_cons_succ]
                  refine Ops.wq_take _ (by rfl) (fun X hx => by go_simp; try with_reducible rfl) ?_
                  try simp only [Act.put, List.setIfInBounds_toArray, List.set_cons_zero, List.set_cons_succ]
                  refine Ops.wq_take _ (by rfl) (fun X hx => by go_simp; try with_reducible rfl) ?_
                  try simp only [Act.put, List.setIfInBounds_toArray, List.set_cons_zero, List.set_cons_succ]
                  refine Ops.wq_take _ (by rfl) (fun X hx => by go_simp; try with_reducible rfl) ?_
                  try simp only [Act.put, List.setIfInBounds_toArray, List.set_cons_zero, List.set_cons_succ]
                  refine Ops.wq_take (.agg PX.toArray) (by rfl) (fun X hx => run_mid_in 29 (.tmp 39) rfl b (k * 19) (by go_simp) PX _ (HRG.out X (HX.out.bel.trans (hx.mono (Nat.le_of_lt HX.out.p.lt)))) rfl rfl (by rw [HXL.out]; kernel_rfl)) ?_
                  try simp only [Act.put, List.setIfInBounds_toArray, List.set_cons_zero, List.set_cons_succ]
                  refine Ops.wq_take (.agg PG.toArray) (by rfl) (fun X hx => run_load_in 29 (.tmp 4) rfl B rfl PG.toArray 18 (by rw [List.size_toArray, HPL.out]) (HX.out.below hx).p rfl rfl (by kernel_rfl)) ?_
                  try simp only [Act.put, List.setIfInBounds_toArray, List.set_cons_zero, List.set_cons_succ]
                  refine Ops.wq_call (.bool true) 40 #[.agg PX.toArray, .agg PG.toArray] (by rfl) (by intro w; go_simp; try with_reducible rfl) (fun X hx => (HE.out X).mono (fun e w' ⟨h1, h2⟩ => ⟨h1, below_trans hx h2⟩)) ?_
                  try simp only [Act.put, List.setIfInBounds_toArray, List.set_cons_zero, List.set_cons_succ]
                  refine Ops.wq_take _ (by rfl) (fun X hx => by go_simp; try with_reducible rfl) ?_
                  try simp only [Act.put, List.setIfInBounds_toArray, List.set_cons_zero, List.set_cons_succ]
                  refine Ops.wq_take _ (by rfl) (fun X hx => by go_simp; try with_reducible rfl) ?_
                  try simp only [Act.put, List.setIfInBounds_toArray, List.set_cons_zero, List.set_cons_succ]
                  refine Ops.wq_end ?_
                  intro w3 hb3
                  have HX3 := Lib.hid (HX.out.below hb3)
                  clear hb3 HX
                  have HUP3 := Lib.hid (show foP F G NX (L.take (k + 1)) = if F x = true then (M, false) else (M ++ [x], false) from by rw [HUP.out]; unfold stP; simp [hgx])
                  by_cases hfx : F x = true
                  · have hq : (((k : Nat) : Int) != r) = false := by have := HATX.out.2 hfx; simp; omega
                    have hq2 : (((k : Nat) : Int) = r) = True := by have := HATX.out.2 hfx; simp; omega
                    have hq3 : (((k : Nat) : Int) == r) = true := by have := HATX.out.2 hfx; simp; omega
                    have HUP2 := Lib.hid (show foP F G NX (L.take (k + 1)) = (M, false) from by rw [HUP3.out, if_pos hfx])
                    clear hfx
                    go_wp2_with fail
                    go_round
                    case rel => exact ⟨k + 1, A', c', by omega, by go_num, by rw [HUP2.out], by rw [HUP2.out], by rw [HUP2.out]; exact HX3.out⟩
                    case measure => simp only [intOf]; omega
                  · have hq : (((k : Nat) : Int) != r) = true := by have := fun e => hfx (HATX.out.1 e); simp; omega
                    have hq2 : (((k : Nat) : Int) = r) = False := by have := fun e => hfx (HATX.out.1 e); simp; omega
                    have hq3 : (((k : Nat) : Int) == r) = false := by have := fun e => hfx (HATX.out.1 e); simp; omega
                    have HUP2 := Lib.hid (show foP F G NX (L.take (k + 1)) = (M ++ [x], false) from by rw [HUP3.out, if_neg hfx])
                    have HRC := Lib.hid (HRCC.out _ HX3.out.bel)
                    clear hfx
                    go_wp2_with (first
                      | (refine wpList_load_mid rfl 41 (.tmp 57) rfl b (k * 19) (by go_simp) C _ HRC.out rfl rfl (by rw [HCL.out.1]; kernel_rfl) ?_)
                      | (refine TrieOwners.wpList_rowOne rfl 24 41 (.tmp 58) rfl (.agg C.toArray) rfl Try.underlying24 C.toArray HBC.out ?_)
                      | (at_builtin; refine wpList_pushS (w := w3) C 19 rfl _ _ 24 41 (.agg (routeL false nought 0 0).toArray) 40 Try.underlying24 info_refr (by show (routeL false nought 0 0).toArray.size = 19; rw [List.size_toArray, routeL_length]) (by omega) rfl rfl rfl HX3.out.own (Nat.succ_le_of_lt HX3.out.p.lt) HCL.out.1 HCL.out.2 (by have := HML.out; (try simp only [List.length_append, List.length_singleton]); omega) (by have := HML.out; (try simp only [List.length_append, List.length_singleton]); omega) ?_; intro A9 c9 w9 hown hbel; have H9 := Lib.hid (PvW.push (x := x) HX3.out hbel (by rw [HCE.out]; exact hown)); clear hown hbel))
                    go_round
                    case rel => exact ⟨k + 1, A9, c9, by omega, by go_num, by rw [HUP2.out], by rw [HUP2.out]; simp, by rw [HUP2.out]; exact H9.out⟩
                    case measure => simp only [intOf]; omega
                | false =>
                  go_upto_region 13 with fail
                  refine q_start (by kernel_rfl) (by kernel_rfl) ?_
                  refine Ops.wq_in ?_
                  refine Ops.wq_take _ (by rfl) (fun X hx => by go_simp; try with_reducible rfl) ?_
                  try simp only [Act.put, List.setIfInBounds_toArray, List.set_cons_zero, List.set_cons_succ]
                  refine Ops.wq_take _ (by rfl) (fun X hx => by go_simp; try with_reducible rfl) ?_
                  try simp only [Act.put, List.setIfInBounds_toArray, List.set_cons_zero, List.set_cons_succ]
                  refine Ops.wq_take _ (by rfl) (fun X hx => by go_simp; try with_reducible rfl) ?_
                  try simp only [Act.put, List.setIfInBounds_toArray, List.set_cons_zero, List.set_cons_succ]
                  refine Ops.wq_take _ (by rfl) (fun X hx => by go_simp; try with_reducible rfl) ?_
                  try simp only [Act.put, List.setIfInBounds_toArray, List.set_cons_zero, List.set_cons_succ]
                  refine Ops.wq_take _ (by rfl) (fun X hx => by go_simp; try with_reducible rfl) ?_
                  try simp only [Act.put, List.setIfInBounds_toArray, List.set_cons_zero, List.set_cons_succ]
                  refine Ops.wq_take _ (by rfl) (fun X hx => by go_simp; try with_reducible rfl) ?_
                  try simp only [Act.put, List.setIfInBounds_toArray, List.set_cons_zero, List.set_cons_succ]
                  refine Ops.wq_take _ (by rfl) (fun X hx => by go_simp; try with_reducible rfl) ?_
                  try simp only [Act.put, List.setIfInBounds_toArray, List.set_cons_zero, List.set_cons_succ]
                  refine Ops.wq_take (.agg PX.toArray) (by rfl) (fun X hx => run_mid_in 29 (.tmp 39) rfl b (k * 19) (by go_simp) PX _ (HRG.out X (HX.out.bel.trans (hx.mono (Nat.le_of_lt HX.out.p.lt)))) rfl rfl (by rw [HXL.out]; kernel_rfl)) ?_
                  try simp only [Act.put, List.setIfInBounds_toArray, List.set_cons_zero, List.set_cons_succ]
                  refine Ops.wq_take (.agg PG.toArray) (by rfl) (fun X hx => run_load_in 29 (.tmp 4) rfl B rfl PG.toArray 18 (by rw [List.size_toArray, HPL.out]) (HX.out.below hx).p rfl rfl (by kernel_rfl)) ?_
                  try simp only [Act.put, List.setIfInBounds_toArray, List.set_cons_zero, List.set_cons_succ]
                  refine Ops.wq_call (.bool false) 40 #[.agg PX.toArray, .agg PG.toArray] (by rfl) (by intro w; go_simp; try with_reducible rfl) (fun X hx => (HE.out X).mono (fun e w' ⟨h1, h2⟩ => ⟨h1, below_trans hx h2⟩)) ?_
                  try simp only [Act.put, List.setIfInBounds_toArray, List.set_cons_zero, List.set_cons_succ]
                  refine Ops.wq_take _ (by rfl) (fun X hx => by go_simp; try with_reducible rfl) ?_
                  try simp only [Act.put, List.setIfInBounds_toArray, List.set_cons_zero, List.set_cons_succ]
                  refine Ops.wq_take _ (by rfl) (fun X hx => by go_simp; try with_reducible rfl) ?_
                  try simp only [Act.put, List.setIfInBounds_toArray, List.set_cons_zero, List.set_cons_succ]
                  refine Ops.wq_end ?_
                  intro w3 hb3
                  have HX3 := Lib.hid (HX.out.below hb3)
                  clear hb3 HX
                  have HUP3 := Lib.hid (show foP F G NX (L.take (k + 1)) = if F x = true then (M ++ [NX], true) else (M ++ [NX] ++ [x], true) from by rw [HUP.out]; unfold stP; simp [hgx])
                  go_upto_region 15 with (first
                    | (refine Poly.wpList_load_row_if rfl 29 (.tmp 4) rfl B rfl 29 PG _ HX3.out.p rfl rfl (by rw [HPL.out]; kernel_rfl) ?_)
                    | (refine wpList_built2' rfl 41 0 1 (.tmp 46) (.tmp 47) rfl (.agg PG.toArray) (.int .i64 o) rfl rfl NC.toArray HPB.out ?_)
                    | (refine TrieOwners.wpList_rowOne rfl 24 41 (.tmp 48) rfl (.agg NC.toArray) rfl Try.underlying24 NC.toArray HBN.out ?_)
                    | (at_builtin; refine wpList_pushS (w := w3) NC 19 rfl _ _ 24 41 (.agg (routeL false nought 0 0).toArray) 40 Try.underlying24 info_refr (by show (routeL false nought 0 0).toArray.size = 19; rw [List.size_toArray, routeL_length]) (by omega) rfl rfl rfl HX3.out.own (Nat.succ_le_of_lt HX3.out.p.lt) HNL.out.1 HNL.out.2 (by have := HML.out; omega) (by have := HML.out; omega) ?_; intro A8 c8 w8 hown hbel; have H8 := Lib.hid (PvW.push (x := NX) HX3.out hbel (by rw [HNCE.out]; exact hown)); clear hown hbel))
                  have hlen : M.length + 1 = (M ++ [NX]).length := by simp
                  have HML := Lib.hid (show (M ++ [NX]).length ≤ 2001 by rw [← hlen]; have := HML.out; omega)
                  rw [hlen]
                  generalize M ++ [NX] = M2 at HML H8 HUP3 ⊢
                  clear hlen HX3
                  by_cases hfx : F x = true
                  · have hq : (((k : Nat) : Int) != r) = false := by have := HATX.out.2 hfx; simp; omega
                    have hq2 : (((k : Nat) : Int) = r) = True := by have := HATX.out.2 hfx; simp; omega
                    have hq3 : (((k : Nat) : Int) == r) = true := by have := HATX.out.2 hfx; simp; omega
                    have HUP2 := Lib.hid (show foP F G NX (L.take (k + 1)) = (M2, true) from by rw [HUP3.out, if_pos hfx])
                    clear hfx
                    go_wp2_with fail
                    go_round
                    case rel => exact ⟨k + 1, A8, c8, by omega, by go_num, by rw [HUP2.out], by rw [HUP2.out], by rw [HUP2.out]; exact H8.out⟩
                    case measure => simp only [intOf]; omega
                  · have hq : (((k : Nat) : Int) != r) = true := by have := fun e => hfx (HATX.out.1 e); simp; omega
                    have hq2 : (((k : Nat) : Int) = r) = False := by have := fun e => hfx (HATX.out.1 e); simp; omega
                    have hq3 : (((k : Nat) : Int) == r) = false := by have := fun e => hfx (HATX.out.1 e); simp; omega
                    have HUP2 := Lib.hid (show foP F G NX (L.take (k + 1)) = (M2 ++ [x], true) from by rw [HUP3.out, if_neg hfx])
                    have HRC := Lib.hid (HRCC.out _ H8.out.bel)
                    clear hfx
                    go_wp2_with (first
                      | (refine wpList_load_mid rfl 41 (.tmp 57) rfl b (k * 19) (by go_simp) C _ HRC.out rfl rfl (by rw [HCL.out.1]; kernel_rfl) ?_)
                      | (refine TrieOwners.wpList_rowOne rfl 24 41 (.tmp 58) rfl (.agg C.toArray) rfl Try.underlying24 C.toArray HBC.out ?_)
                      | (at_builtin; refine wpList_pushS (w := w8) C 19 rfl _ _ 24 41 (.agg (routeL false nought 0 0).toArray) 40 Try.underlying24 info_refr (by show (routeL false nought 0 0).toArray.size = 19; rw [List.size_toArray, routeL_length]) (by omega) rfl rfl rfl H8.out.own (Nat.succ_le_of_lt H8.out.p.lt) HCL.out.1 HCL.out.2 (by have := HML.out; (try simp only [List.length_append, List.length_singleton]); omega) (by have := HML.out; (try simp only [List.length_append, List.length_singleton]); omega) ?_; intro A9 c9 w9 hown hbel; have H9 := Lib.hid (PvW.push (x := x) H8.out hbel (by rw [HCE.out]; exact hown)); clear hown hbel))
                    go_round
                    case rel => exact ⟨k + 1, A9, c9, by omega, by go_num, by rw [HUP2.out], by rw [HUP2.out]; simp, by rw [HUP2.out]; exact H9.out⟩
                    case measure => simp only [intOf]; omega
            · obtain rfl : k = n := by omega
              have hall : L.take k = L := List.take_of_length_le (Nat.le_of_eq HN.out)
              rw [hall] at HX HML ⊢
              obtain ⟨⟨M, D⟩, hst⟩ : ∃ o, foP F G NX L = o := ⟨_, rfl⟩
              have HST := Lib.hid hst
              rw [hst] at HX HML ⊢
              clear hst hall
              simp only at HX HML ⊢
              cases D with
              | true =>
                go_wp2_with fail
                go_ret2
                have hres : RES = M := by rw [HEV.out.2, HST.out]; rfl
                exact ⟨A', c', by rw [HEV.out.1, hres]; rfl, by rw [hres]; exact rdQ_of (rdR_own HX.out.own), by rw [hres]; exact own_caps HX.out.own, by rw [HB.out]; exact HX.out.bel⟩
              | false =>
                go_wp2_with (first
                  | (refine Poly.wpList_load_row_if rfl 29 (.tmp 4) rfl B rfl 29 PG _ HX.out.p rfl rfl (by rw [HPL.out]; kernel_rfl) ?_)
                  | (refine wpList_built2' rfl 41 0 1 (.tmp 64) (.tmp 65) rfl (.agg PG.toArray) (.int .i64 o) rfl rfl NC.toArray HPB.out ?_)
                  | (refine TrieOwners.wpList_rowOne rfl 24 41 (.tmp 66) rfl (.agg NC.toArray) rfl Try.underlying24 NC.toArray HBN.out ?_)
                  | (at_builtin; refine wpList_pushS (w := wr) NC 19 rfl _ _ 24 41 (.agg (routeL false nought 0 0).toArray) 40 Try.underlying24 info_refr (by show (routeL false nought 0 0).toArray.size = 19; rw [List.size_toArray, routeL_length]) (by omega) rfl rfl rfl HX.out.own (Nat.succ_le_of_lt HX.out.p.lt) HNL.out.1 HNL.out.2 (by have := HML.out; omega) (by have := HML.out; omega) ?_; intro A8 c8 w8 hown hbel; have H8 := Lib.hid (PvW.push (x := NX) HX.out hbel (by rw [HNCE.out]; exact hown)); clear hown hbel))
                go_ret2
                have hres : RES = M ++ [NX] := by rw [HEV.out.2, HST.out]; rfl
                exact ⟨A8, c8, by rw [HEV.out.1, hres, List.length_append, List.length_singleton]; rfl, by rw [hres]; exact rdQ_of (rdR_own H8.out.own), by rw [hres]; exact own_caps H8.out.own, by rw [HB.out]; exact H8.out.bel⟩
        · clear hr64
          go_wp2_with fail
          go_loopw [9, 10, 11] (fun out d i X => ∃ (k : Nat) (A' : Option Addr) (c' : Nat), k ≤ n ∧ i = .int .i64 (k : Nat) ∧ d = .bool (foP F G NX (L.take k)).2 ∧ out = .slice A' (foP F G NX (L.take k)).1.length c' ∧ PvW w B PG A' c' (foP F G NX (L.take k)).1 X) (fun _ _ i _ => n - (intOf i).toNat)
          case atStart => exact ⟨0, none, 0, Nat.zero_le _, rfl, rfl, rfl, ⟨HW2.out.p, ⟨rfl, .inl ⟨rfl, rfl⟩⟩, HW2.out.bel⟩⟩
          case round =>
            obtain ⟨k, A', c', hk, rfl, rfl, rfl, hX⟩ := hrel
            have HX := Lib.hid hX
            clear hX HW2
            have HML := Lib.hid (Nat.le_trans (HLE.out k hk) (show 2 * k ≤ 2000 by omega))
            by_cases hlt : k < n
            · have hkL : k < L.length := by rw [HN.out]; exact hlt
              have hx := List.getElem?_eq_getElem hkL
              have hup := fo_snoc F G NX (L.take k) L[k]
              rw [← List.take_succ_eq_append_getElem hkL] at hup
              have hfx := HFI.out L[k] (List.getElem_mem hkL)
              have HE := Lib.hid (HBE.out (by trivial) L[k] hfx)
              have HATX := Lib.hid (HAT.out k L[k] hx)
              generalize L[k] = x at hx hup hfx HE HATX
              obtain ⟨b, rfl, hbl, hrg⟩ := (HRD.out _ (Below.refl _ _)).out k x hx
              have HRCC := Lib.hid (show ∀ X, Below B w X → X.rangeAt b (k * 19) x.cells from fun X hX => range_below hrg hX (by rw [← HB.out]; exact hbl))
              have HRG := Lib.hid (show ∀ X, Below B w X → X.rangeAt b (k * 19) (prefL x.s (byt x.p) (x.p.length : Int)) from fun X hX j v hj => HRCC.out X hX j v (route_pre _ _ _ _ hj))
              have HXL := Lib.hid (prefL_length x.s (byt x.p) (x.p.length : Int))
              have HCL := Lib.hid (show x.cells.length = 19 ∧ ∀ u ∈ x.cells, u.oneCell' = true from ⟨x.len, x.each⟩)
              have HBC := Lib.hid (built_refr x)
              obtain ⟨PX, hPX⟩ : ∃ PX, prefL x.s (byt x.p) (x.p.length : Int) = PX := ⟨_, rfl⟩
              obtain ⟨C, hC⟩ : ∃ C, x.cells = C := ⟨_, rfl⟩
              have HCE := Lib.hid hC
              rw [hPX] at HRG HXL HE
              rw [hC] at HRCC HCL HBC
              obtain ⟨⟨M, D⟩, hst⟩ : ∃ o, foP F G NX (L.take k) = o := ⟨_, rfl⟩
              rw [hst] at hup HX HML ⊢
              have HUP := Lib.hid hup
              clear hx hup hfx hrg hbl hkL hPX hC hst
              simp only at HX HML ⊢
              cases D with
              | true =>
                go_upto_region 13 with fail
                refine q_start (by kernel_rfl) (by kernel_rfl) ?_
                refine Ops.wq_in ?_
                refine Ops.wq_take _ (by rfl) (fun X hx => by go_simp; try with_reducible rfl) ?_
                try simp only [Act.put, List.setIfInBounds_toArray, List.set_cons_zero, List.set_cons_succ]
                refine Ops.wq_take _ (by rfl) (fun X hx => by go_simp; try with_reducible rfl) ?_
                try simp only [Act.put, List.setIfInBounds_toArray, List.set_cons_zero, List.set_cons_succ]
                refine Ops.wq_take _ (by rfl) (fun X hx => by go_simp; try with_reducible rfl) ?_
                try simp only [Act.put, List.setIfInBounds_toArray, List.set_cons_zero, List.set_cons_succ]
                refine Ops.wq_pass (by rfl) ?_
                try simp only [Act.put, List.setIfInBounds_toArray, List.set_cons_zero, List.set_cons_succ]
                refine Ops.wq_pass (by rfl) ?_
                try simp only [Act.put, List.setIfInBounds_toArray, List.set_cons_zero, List.set_cons_succ]
                refine Ops.wq_pass (by rfl) ?_
                try simp only [Act.put, List.setIfInBounds_toArray, List.set_cons_zero, List.set_cons_succ]
                refine Ops.wq_pass (by rfl) ?_
                try simp only [Act.put, List.setIfInBounds_toArray, List.set_cons_zero, List.set_cons_succ]
                refine Ops.wq_pass (by rfl) ?_
                try simp only [Act.put, List.setIfInBounds_toArray, List.set_cons_zero, List.set_cons_succ]
                refine Ops.wq_pass (by rfl) ?_
                try simp only [Act.put, List.setIfInBounds_toArray, List.set_cons_zero, List.set_cons_succ]
                refine Ops.wq_pass (by rfl) ?_
                try simp only [Act.put, List.setIfInBounds_toArray, List.set_cons_zero, List.set_cons_succ]
                refine Ops.wq_pass (by rfl) ?_
                try simp only [Act.put, List.setIfInBounds_toArray, List.set_cons_zero, List.set_cons_succ]
                refine Ops.wq_take _ (by rfl) (fun X hx => by go_simp; try with_reducible rfl) ?_
                try simp only [Act.put, List.setIfInBounds_toArray, List.set_cons_zero, List.set_cons_succ]
                refine Ops.wq_end ?_
                intro w3 hb3
                have HX3 := Lib.hid (HX.out.below hb3)
                clear hb3 HX
                have HUP3 := Lib.hid (show foP F G NX (L.take (k + 1)) = if F x = true then (M, true) else (M ++ [x], true) from by rw [HUP.out]; unfold stP; simp)
                by_cases hfx : F x = true
                · have hq : (((k : Nat) : Int) != r) = false := by have := HATX.out.2 hfx; simp; omega
                  have hq2 : (((k : Nat) : Int) = r) = True := by have := HATX.out.2 hfx; simp; omega
                  have hq3 : (((k : Nat) : Int) == r) = true := by have := HATX.out.2 hfx; simp; omega
                  have HUP2 := Lib.hid (show foP F G NX (L.take (k + 1)) = (M, true) from by rw [HUP3.out, if_pos hfx])
                  clear hfx
                  go_wp2_with fail
                  go_round
                  case rel => exact ⟨k + 1, A', c', by omega, by go_num, by rw [HUP2.out], by rw [HUP2.out], by rw [HUP2.out]; exact HX3.out⟩
                  case measure => simp only [intOf]; omega
                · have hq : (((k : Nat) : Int) != r) = true := by have := fun e => hfx (HATX.out.1 e); simp; omega
                  have hq2 : (((k : Nat) : Int) = r) = False := by have := fun e => hfx (HATX.out.1 e); simp; omega
                  have hq3 : (((k : Nat) : Int) == r) = false := by have := fun e => hfx (HATX.out.1 e); simp; omega
                  have HUP2 := Lib.hid (show foP F G NX (L.take (k + 1)) = (M ++ [x], true) from by rw [HUP3.out, if_neg hfx])
                  have HRC := Lib.hid (HRCC.out _ HX3.out.bel)
                  clear hfx
                  go_wp2_with (first
                    | (refine wpList_load_mid rfl 41 (.tmp 57) rfl b (k * 19) (by go_simp) C _ HRC.out rfl rfl (by rw [HCL.out.1]; kernel_rfl) ?_)
                    | (refine TrieOwners.wpList_rowOne rfl 24 41 (.tmp 58) rfl (.agg C.toArray) rfl Try.underlying24 C.toArray HBC.out ?_)
                    | (at_builtin; refine wpList_pushS (w := w3) C 19 rfl _ _ 24 41 (.agg (routeL false nought 0 0).toArray) 40 Try.underlying24 info_refr (by show (routeL false nought 0 0).toArray.size = 19; rw [List.size_toArray, routeL_length]) (by omega) rfl rfl rfl HX3.out.own (Nat.succ_le_of_lt HX3.out.p.lt) HCL.out.1 HCL.out.2 (by have := HML.out; (try simp only [List.length_append, List.length_singleton]); omega) (by have := HML.out; (try simp only [List.length_append, List.length_singleton]); omega) ?_; intro A9 c9 w9 hown hbel; have H9 := Lib.hid (PvW.push (x := x) HX3.out hbel (by rw [HCE.out]; exact hown)); clear hown hbel))
                  go_round
                  case rel => exact ⟨k + 1, A9, c9, by omega, by go_num, by rw [HUP2.out], by rw [HUP2.out]; simp, by rw [HUP2.out]; exact H9.out⟩
                  case measure => simp only [intOf]; omega
              | false =>
                obtain ⟨gx, hgx⟩ : ∃ r, G x = r := ⟨_, rfl⟩
                rw [hgx] at HE
                cases gx with
                | true =>
                  go_upto_region 13 with fail
                  refine q_start (by kernel_rfl) (by kernel_rfl) ?_
                  refine Ops.wq_in ?_
                  refine Ops.wq_take _ (by rfl) (fun X hx => by go_simp; try with_reducible rfl) ?_
                  try simp only [Act.put, List.setIfInBounds_toArray, List.set_cons_zero, List.set_cons_succ]
                  refine Ops.wq_take _ (by rfl) (fun X hx => by go_simp; try with_reducible rfl) ?_
                  try simp only [Act.put, List.setIfInBounds_toArray, List.set_cons_zero, List.set_cons_succ]
                  refine Ops.wq_take _ (by rfl) (fun X hx => by go_simp; try with_reducible rfl) ?_
                  try simp only [Act.put, List.setIfInBounds_toArray, List.set_cons_zero, List.set_cons_succ]
                  refine Ops.wq_take _ (by rfl) (fun X hx => by go_simp; try with_reducible rfl) ?_
                  try simp only [Act.put, List.setIfInBounds_toArray, List.set_cons_zero, List.set_cons_succ]
                  refine Ops.wq_take _ (by rfl) (fun X hx => by go_simp; try with_reducible rfl) ?_
                  try simp only [Act.put, List.setIfInBounds_toArray, List.set_cons_zero, List.set_cons_succ]
                  refine Ops.wq_take _ (by rfl) (fun X hx => by go_simp; try with_reducible rfl) ?_
                  try simp only [Act.put, List.setIfInBounds_toArray, List.set_cons_zero, List.set_cons_succ]
                  refine Ops.wq_take _ (by rfl) (fun X hx => by go_simp; try with_reducible rfl) ?_
                  try simp only [Act.put, List.setIfInBounds_toArray, List.set_cons_zero, List.set_cons_succ]
                  refine Ops.wq_take (.agg PX.toArray) (by rfl) (fun X hx => run_mid_in 29 (.tmp 39) rfl b (k * 19) (by go_simp) PX _ (HRG.out X (HX.out.bel.trans (hx.mono (Nat.le_of_lt HX.out.p.lt)))) rfl rfl (by rw [HXL.out]; kernel_rfl)) ?_
                  try simp only [Act.put, List.setIfInBounds_toArray, List.set_cons_zero, List.set_cons_succ]
                  refine Ops.wq_take (.agg PG.toArray) (by rfl) (fun X hx => run_load_in 29 (.tmp 4) rfl B rfl PG.toArray 18 (by rw [List.size_toArray, HPL.out]) (HX.out.below hx).p rfl rfl (by kernel_rfl)) ?_
                  try simp only [Act.put, List.setIfInBounds_toArray, List.set_cons_zero, List.set_cons_succ]
                  refine Ops.wq_call (.bool true) 40 #[.agg PX.toArray, .agg PG.toArray] (by rfl) (by intro w; go_simp; try with_reducible rfl) (fun X hx => (HE.out X).mono (fun e w' ⟨h1, h2⟩ => ⟨h1, below_trans hx h2⟩)) ?_
                  try simp only [Act.put, List.setIfInBounds_toArray, List.set_cons_zero, List.set_cons_succ]
                  refine Ops.wq_take _ (by rfl) (fun X hx => by go_simp; try with_reducible rfl) ?_
                  try simp only [Act.put, List.setIfInBounds_toArray, List.set_cons_zero, List.set_cons_succ]
                  refine Ops.wq_take _ (by rfl) (fun X hx => by go_simp; try with_reducible rfl) ?_
                  try simp only [Act.put, List.setIfInBounds_toArray, List.set_cons_zero, List.set_cons_succ]
                  refine Ops.wq_end ?_
                  intro w3 hb3
                  have HX3 := Lib.hid (HX.out.below hb3)
                  clear hb3 HX
                  have HUP3 := Lib.hid (show foP F G NX (L.take (k + 1)) = if F x = true then (M, false) else (M ++ [x], false) from by rw [HUP.out]; unfold stP; simp [hgx])
                  by_cases hfx : F x = true
                  · have hq : (((k : Nat) : Int) != r) = false := by have := HATX.out.2 hfx; simp; omega
                    have hq2 : (((k : Nat) : Int) = r) = True := by have := HATX.out.2 hfx; simp; omega
                    have hq3 : (((k : Nat) : Int) == r) = true := by have := HATX.out.2 hfx; simp; omega
                    have HUP2 := Lib.hid (show foP F G NX (L.take (k + 1)) = (M, false) from by rw [HUP3.out, if_pos hfx])
                    clear hfx
                    go_wp2_with fail
                    go_round
                    case rel => exact ⟨k + 1, A', c', by omega, by go_num, by rw [HUP2.out], by rw [HUP2.out], by rw [HUP2.out]; exact HX3.out⟩
                    case measure => simp only [intOf]; omega
                  · have hq : (((k : Nat) : Int) != r) = true := by have := fun e => hfx (HATX.out.1 e); simp; omega
                    have hq2 : (((k : Nat) : Int) = r) = False := by have := fun e => hfx (HATX.out.1 e); simp; omega
                    have hq3 : (((k : Nat) : Int) == r) = false := by have := fun e => hfx (HATX.out.1 e); simp; omega
                    have HUP2 := Lib.hid (show foP F G NX (L.take (k + 1)) = (M ++ [x], false) from by rw [HUP3.out, if_neg hfx])
                    have HRC := Lib.hid (HRCC.out _ HX3.out.bel)
                    clear hfx
                    go_wp2_with (first
                      | (refine wpList_load_mid rfl 41 (.tmp 57) rfl b (k * 19) (by go_simp) C _ HRC.out rfl rfl (by rw [HCL.out.1]; kernel_rfl) ?_)
                      | (refine TrieOwners.wpList_rowOne rfl 24 41 (.tmp 58) rfl (.agg C.toArray) rfl Try.underlying24 C.toArray HBC.out ?_)
                      | (at_builtin; refine wpList_pushS (w := w3) C 19 rfl _ _ 24 41 (.agg (routeL false nought 0 0).toArray) 40 Try.underlying24 info_refr (by show (routeL false nought 0 0).toArray.size = 19; rw [List.size_toArray, routeL_length]) (by omega) rfl rfl rfl HX3.out.own (Nat.succ_le_of_lt HX3.out.p.lt) HCL.out.1 HCL.out.2 (by have := HML.out; (try simp only [List.length_append, List.length_singleton]); omega) (by have := HML.out; (try simp only [List.length_append, List.length_singleton]); omega) ?_; intro A9 c9 w9 hown hbel; have H9 := Lib.hid (PvW.push (x := x) HX3.out hbel (by rw [HCE.out]; exact hown)); clear hown hbel))
                    go_round
                    case rel => exact ⟨k + 1, A9, c9, by omega, by go_num, by rw [HUP2.out], by rw [HUP2.out]; simp, by rw [HUP2.out]; exact H9.out⟩
                    case measure => simp only [intOf]; omega
                | false =>
                  go_upto_region 13 with fail
                  refine q_start (by kernel_rfl) (by kernel_rfl) ?_
                  refine Ops.wq_in ?_
                  refine Ops.wq_take _ (by rfl) (fun X hx => by go_simp; try with_reducible rfl) ?_
                  try simp only [Act.put, List.setIfInBounds_toArray, List.set_cons_zero, List.set_cons_succ]
                  refine Ops.wq_take _ (by rfl) (fun X hx => by go_simp; try with_reducible rfl) ?_
                  try simp only [Act.put, List.setIfInBounds_toArray, List.set_cons_zero, List.set_cons_succ]
                  refine Ops.wq_take _ (by rfl) (fun X hx => by go_simp; try with_reducible rfl) ?_
                  try simp only [Act.put, List.setIfInBounds_toArray, List.set_cons_zero, List.set_cons_succ]
                  refine Ops.wq_take _ (by rfl) (fun X hx => by go_simp; try with_reducible rfl) ?_
                  try simp only [Act.put, List.setIfInBounds_toArray, List.set_cons_zero, List.set_cons_succ]
                  refine Ops.wq_take _ (by rfl) (fun X hx => by go_simp; try with_reducible rfl) ?_
                  try simp only [Act.put, List.setIfInBounds_toArray, List.set_cons_zero, List.set_cons_succ]
                  refine Ops.wq_take _ (by rfl) (fun X hx => by go_simp; try with_reducible rfl) ?_
                  try simp only [Act.put, List.setIfInBounds_toArray, List.set_cons_zero, List.set_cons_succ]
                  refine Ops.wq_take _ (by rfl) (fun X hx => by go_simp; try with_reducible rfl) ?_
                  try simp only [Act.put, List.setIfInBounds_toArray, List.set_cons_zero, List.set_cons_succ]
                  refine Ops.wq_take (.agg PX.toArray) (by rfl) (fun X hx => run_mid_in 29 (.tmp 39) rfl b (k * 19) (by go_simp) PX _ (HRG.out X (HX.out.bel.trans (hx.mono (Nat.le_of_lt HX.out.p.lt)))) rfl rfl (by rw [HXL.out]; kernel_rfl)) ?_
                  try simp only [Act.put, List.setIfInBounds_toArray, List.set_cons_zero, List.set_cons_succ]
                  refine Ops.wq_take (.agg PG.toArray) (by rfl) (fun X hx => run_load_in 29 (.tmp 4) rfl B rfl PG.toArray 18 (by rw [List.size_toArray, HPL.out]) (HX.out.below hx).p rfl rfl (by kernel_rfl)) ?_
                  try simp only [Act.put, List.setIfInBounds_toArray, List.set_cons_zero, List.set_cons_succ]
                  refine Ops.wq_call (.bool false) 40 #[.agg PX.toArray, .agg PG.toArray] (by rfl) (by intro w; go_simp; try with_reducible rfl) (fun X hx => (HE.out X).mono (fun e w' ⟨h1, h2⟩ => ⟨h1, below_trans hx h2⟩)) ?_
                  try simp only [Act.put, List.setIfInBounds_toArray, List.set_cons_zero, List.set_cons_succ]
                  refine Ops.wq_take _ (by rfl) (fun X hx => by go_simp; try with_reducible rfl) ?_
                  try simp only [Act.put, List.setIfInBounds_toArray, List.set_cons_zero, List.set_cons_succ]
                  refine Ops.wq_take _ (by rfl) (fun X hx => by go_simp; try with_reducible rfl) ?_
                  try simp only [Act.put, List.setIfInBounds_toArray, List.set_cons_zero, List.set_cons_succ]
                  refine Ops.wq_end ?_
                  intro w3 hb3
                  have HX3 := Lib.hid (HX.out.below hb3)
                  clear hb3 HX
                  have HUP3 := Lib.hid (show foP F G NX (L.take (k + 1)) = if F x = true then (M ++ [NX], true) else (M ++ [NX] ++ [x], true) from by rw [HUP.out]; unfold stP; simp [hgx])
                  go_upto_region 15 with (first
                    | (refine Poly.wpList_load_row_if rfl 29 (.tmp 4) rfl B rfl 29 PG _ HX3.out.p rfl rfl (by rw [HPL.out]; kernel_rfl) ?_)
                    | (refine wpList_built2' rfl 41 0 1 (.tmp 46) (.tmp 47) rfl (.agg PG.toArray) (.int .i64 o) rfl rfl NC.toArray HPB.out ?_)
                    | (refine TrieOwners.wpList_rowOne rfl 24 41 (.tmp 48) rfl (.agg NC.toArray) rfl Try.underlying24 NC.toArray HBN.out ?_)
                    | (at_builtin; refine wpList_pushS (w := w3) NC 19 rfl _ _ 24 41 (.agg (routeL false nought 0 0).toArray) 40 Try.underlying24 info_refr (by show (routeL false nought 0 0).toArray.size = 19; rw [List.size_toArray, routeL_length]) (by omega) rfl rfl rfl HX3.out.own (Nat.succ_le_of_lt HX3.out.p.lt) HNL.out.1 HNL.out.2 (by have := HML.out; omega) (by have := HML.out; omega) ?_; intro A8 c8 w8 hown hbel; have H8 := Lib.hid (PvW.push (x := NX) HX3.out hbel (by rw [HNCE.out]; exact hown)); clear hown hbel))
                  have hlen : M.length + 1 = (M ++ [NX]).length := by simp
                  have HML := Lib.hid (show (M ++ [NX]).length ≤ 2001 by rw [← hlen]; have := HML.out; omega)
                  rw [hlen]
                  generalize M ++ [NX] = M2 at HML H8 HUP3 ⊢
                  clear hlen HX3
                  by_cases hfx : F x = true
                  · have hq : (((k : Nat) : Int) != r) = false := by have := HATX.out.2 hfx; simp; omega
                    have hq2 : (((k : Nat) : Int) = r) = True := by have := HATX.out.2 hfx; simp; omega
                    have hq3 : (((k : Nat) : Int) == r) = true := by have := HATX.out.2 hfx; simp; omega
                    have HUP2 := Lib.hid (show foP F G NX (L.take (k + 1)) = (M2, true) from by rw [HUP3.out, if_pos hfx])
                    clear hfx
                    go_wp2_with fail
                    go_round
                    case rel => exact ⟨k + 1, A8, c8, by omega, by go_num, by rw [HUP2.out], by rw [HUP2.out], by rw [HUP2.out]; exact H8.out⟩
                    case measure => simp only [intOf]; omega
                  · have hq : (((k : Nat) : Int) != r) = true := by have := fun e => hfx (HATX.out.1 e); simp; omega
                    have hq2 : (((k : Nat) : Int) = r) = False := by have := fun e => hfx (HATX.out.1 e); simp; omega
                    have hq3 : (((k : Nat) : Int) == r) = false := by have := fun e => hfx (HATX.out.1 e); simp; omega
                    have HUP2 := Lib.hid (show foP F G NX (L.take (k + 1)) = (M2 ++ [x], true) from by rw [HUP3.out, if_neg hfx])
                    have HRC := Lib.hid (HRCC.out _ H8.out.bel)
                    clear hfx
                    go_wp2_with (first
                      | (refine wpList_load_mid rfl 41 (.tmp 57) rfl b (k * 19) (by go_simp) C _ HRC.out rfl rfl (by rw [HCL.out.1]; kernel_rfl) ?_)
                      | (refine TrieOwners.wpList_rowOne rfl 24 41 (.tmp 58) rfl (.agg C.toArray) rfl Try.underlying24 C.toArray HBC.out ?_)
                      | (at_builtin; refine wpList_pushS (w := w8) C 19 rfl _ _ 24 41 (.agg (routeL false nought 0 0).toArray) 40 Try.underlying24 info_refr (by show (routeL false nought 0 0).toArray.size = 19; rw [List.size_toArray, routeL_length]) (by omega) rfl rfl rfl H8.out.own (Nat.succ_le_of_lt H8.out.p.lt) HCL.out.1 HCL.out.2 (by have := HML.out; (try simp only [List.length_append, List.length_singleton]); omega) (by have := HML.out; (try simp only [List.length_append, List.length_singleton]); omega) ?_; intro A9 c9 w9 hown hbel; have H9 := Lib.hid (PvW.push (x := x) H8.out hbel (by rw [HCE.out]; exact hown)); clear hown hbel))
                    go_round
                    case rel => exact ⟨k + 1, A9, c9, by omega, by go_num, by rw [HUP2.out], by rw [HUP2.out]; simp, by rw [HUP2.out]; exact H9.out⟩
                    case measure => simp only [intOf]; omega
            · obtain rfl : k = n := by omega
              have hall : L.take k = L := List.take_of_length_le (Nat.le_of_eq HN.out)
              rw [hall] at HX HML ⊢
              obtain ⟨⟨M, D⟩, hst⟩ : ∃ o, foP F G NX L = o := ⟨_, rfl⟩
              have HST := Lib.hid hst
              rw [hst] at HX HML ⊢
              clear hst hall
              simp only at HX HML ⊢
              cases D with
              | true =>
                go_wp2_with fail
                go_ret2
                have hres : RES = M := by rw [HEV.out.2, HST.out]; rfl
                exact ⟨A', c', by rw [HEV.out.1, hres]; rfl, by rw [hres]; exact rdQ_of (rdR_own HX.out.own), by rw [hres]; exact own_caps HX.out.own, by rw [HB.out]; exact HX.out.bel⟩
              | false =>
                go_wp2_with (first
                  | (refine Poly.wpList_load_row_if rfl 29 (.tmp 4) rfl B rfl 29 PG _ HX.out.p rfl rfl (by rw [HPL.out]; kernel_rfl) ?_)
                  | (refine wpList_built2' rfl 41 0 1 (.tmp 64) (.tmp 65) rfl (.agg PG.toArray) (.int .i64 o) rfl rfl NC.toArray HPB.out ?_)
                  | (refine TrieOwners.wpList_rowOne rfl 24 41 (.tmp 66) rfl (.agg NC.toArray) rfl Try.underlying24 NC.toArray HBN.out ?_)
                  | (at_builtin; refine wpList_pushS (w := wr) NC 19 rfl _ _ 24 41 (.agg (routeL false nought 0 0).toArray) 40 Try.underlying24 info_refr (by show (routeL false nought 0 0).toArray.size = 19; rw [List.size_toArray, routeL_length]) (by omega) rfl rfl rfl HX.out.own (Nat.succ_le_of_lt HX.out.p.lt) HNL.out.1 HNL.out.2 (by have := HML.out; omega) (by have := HML.out; omega) ?_; intro A8 c8 w8 hown hbel; have H8 := Lib.hid (PvW.push (x := NX) HX.out hbel (by rw [HNCE.out]; exact hown)); clear hown hbel))
                go_ret2
                have hres : RES = M ++ [NX] := by rw [HEV.out.2, HST.out]; rfl
                exact ⟨A8, c8, by rw [HEV.out.1, hres, List.length_append, List.length_singleton]; rfl, by rw [hres]; exact rdQ_of (rdR_own H8.out.own), by rw [hres]; exact own_caps H8.out.own, by rw [HB.out]; exact H8.out.bel⟩
end Tri
end Go.Proofs.Ytcpfchfhcfdcpaa
