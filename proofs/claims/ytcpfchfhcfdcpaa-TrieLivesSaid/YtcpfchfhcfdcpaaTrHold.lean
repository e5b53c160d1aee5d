/- Package trie: holding: what its iterator hands out. -/
import Derived.Test.YtcpfchfhcfdcpaaTrAll
import Derived.Test.YtcpfchfhcfdcpaaTrOut
import Derived.Deep.DeepCutAuto
namespace Go.Proofs.Ytcpfchfhcfdcpaa
namespace Tri
open Go.ChangeShapes Go.WideShapes Go.ChangeAt Go.RowKit Go.Shelf
open Num Mem Words Chacha Aead Poly Quiet Ops Adr

attribute [local go_sem] Oper.semAt_some

/-- the routes on the way to an address -/
def subR (s : Bool) (f : Nat → Nat) (t : Tr) : List Rt := if rightB s f = true then (t.hold (bs f (digitsI s).toNat)).map fun x => ⟨s, x.1, x.2⟩ else []
def holdR (s : Bool) (f : Nat → Nat) (ta tb : Tr) : List Rt := subR s f (if s then tb else ta)
def nextT (s : Bool) (f : Nat → Nat) (z : Nat) (a b : Tr) : Tr := if digitsI s ≤ (z : Int) then .nil else if dig f z = true then b else a
theorem subR_nil (s : Bool) (f : Nat → Nat) : subR s f .nil = [] := by unfold subR; split <;> rfl
theorem subR_yes {s : Bool} {f : Nat → Nat} {p : Bs} {o : Int} {a b : Tr} (hr : rightB s f = true) (hp : p <+: bs f (digitsI s).toNat) : subR s f (.node p o a b) = (if o = 0 then [] else [⟨s, p, o⟩]) ++ subR s f (nextT s f p.length a b) := by
  have hd : 0 ≤ digitsI s := by unfold digitsI; split <;> decide
  have hl := hp.length_le
  rw [bs_length] at hl
  unfold subR
  rw [if_pos hr, if_pos hr, Tr.hold, if_pos hp, bs_length]
  have h1 : ((if p.length = (digitsI s).toNat then [] else if (bs f (digitsI s).toNat).getD p.length false = true then b.hold (bs f (digitsI s).toNat) else a.hold (bs f (digitsI s).toNat)) : List (Bs × Int)) = (nextT s f p.length a b).hold (bs f (digitsI s).toNat) := by
    unfold nextT
    by_cases h2 : digitsI s ≤ (p.length : Int)
    · rw [if_pos (by omega), if_pos h2]; rfl
    · rw [if_neg (by omega), if_neg h2, bs_getD f (by omega)]
      split <;> rfl
  rw [h1, List.map_append]
  by_cases ho : o = 0
  · rw [if_pos ho, if_pos ho]; rfl
  · rw [if_neg ho, if_neg ho]; rfl
theorem subR_no {s : Bool} {f : Nat → Nat} {p : Bs} {o : Int} {a b : Tr} (h : ¬ (rightB s f = true ∧ p <+: bs f (digitsI s).toNat)) : subR s f (.node p o a b) = [] := by
  unfold subR
  by_cases hr : rightB s f = true
  · rw [if_pos hr, Tr.hold, if_neg (fun c => h ⟨hr, c⟩)]; rfl
  · rw [if_neg hr]
theorem isT_next {A : Nat → Prop} {w : World} {s : Bool} {a b : Tr} {k0 k1 : Option Nat} (f : Nat → Nat) (z : Nat) (ha : IsT A w s a k0) (hb : IsT A w s b k1) : IsT A w s (nextT s f z a b) (nextK s f z k0 k1) := by
  unfold nextT nextK
  split
  · exact rfl
  · split
    · exact hb
    · exact ha
theorem ok_next {p : Bs} {o : Int} {a b : Tr} (h : (Tr.node p o a b).Ok) (s : Bool) (f : Nat → Nat) (z : Nat) : (nextT s f z a b).Ok ∧ ∃ c, (nextT s f z a b).root (p ++ [c]) := by
  unfold nextT
  split
  · exact ⟨trivial, true, trivial⟩
  · split
    · exact ⟨h.2.2.2, true, h.2.1⟩
    · exact ⟨h.2.2.1, false, h.1⟩
/-- the loop's measure: digits that are left -/
def leftT (v : Value) (W : World) : Nat :=
  match v with
  | .pointer (some a) => 1000 - (match W.cell? ⟨a.block, 17, none⟩ with | some (.int _ z) => z.toNat | _ => 0)
  | _ => 0
theorem left_node {W : World} {r : Nat} {s : Bool} {f : Nat → Nat} {z : Nat} {o : Int} {k0 k1 : Option Nat} (h : Nod W r s f z o k0 k1) : leftT (.pointer (some ⟨r, 0, none⟩)) W = 1000 - z := by
  unfold leftT
  simp only [h.bits]
  rfl
theorem left_less {A : Nat → Prop} {W : World} {s : Bool} {t : Tr} {q : Option Nat} (h : IsT A W s t q) {p : Bs} {c : Bool} (hr : t.root (p ++ [c])) (hp : p.length ≤ 128) : leftT (ptrV q) W < 1000 - p.length := by
  cases t with
  | nil =>
    have hq : q = none := h
    subst hq
    show 0 < _
    omega
  | node p2 o a b =>
    obtain ⟨r, f, k0, k1, rfl, _, _, hrp, _, _, hn, _, _⟩ := h.nod
    have h1 := (right_parts hrp).2.2.1
    have h2 := digits_le s
    have h3 := (show (p ++ [c]) <+: p2 from hr).length_le
    rw [List.length_append, List.length_singleton] at h3
    show leftT (.pointer (some ⟨r, 0, none⟩)) W < _
    rw [left_node hn]
    omega

set_option maxRecDepth 100000 in
set_option maxHeartbeats 8000000 in
theorem holding_tells (n₀ : Nat) (w : World) (Bt Ba : Nat) (q : Option Nat) (ta tb : Tr) (oka : ta.Ok) (okb : tb.Ok) (s : Bool) (f : Nat → Nat) (hf : ∀ i, f i < 256) (hc : w.cell? ⟨Bt, 0, none⟩ = some (ptrV q)) (hBt : Bt < w.heap.size) (ha : Whole w Ba 27 (addrL s f).toArray) (hT : IsTrie (fun i => i < n₀) w ta tb q) :
    Tells Try.prog n₀ (fun k => k = Ba) 41 #[.pointer (some ⟨Bt, 0, none⟩), .pointer (some ⟨Ba, 0, none⟩)] encRt (holdR s f ta tb) w := by
  intro l J Jx W hW hnW hW2 hJk _ hY h0
  have hc1 : W.cell? ⟨Bt, 0, none⟩ = some (ptrV q) := (hW2.cell (p := ⟨Bt, 0, none⟩) hBt).trans hc
  have hBt2 : Bt < W.heap.size := Nat.lt_of_lt_of_le hBt hW2.size
  replace ha := ha.below hW2 ha.lt
  replace hT := hT.low hW
  clear hc hBt hW hW2
  show Calls _ _ #[.func (.yield l) #[] #[], .pointer (some ⟨Bt, 0, none⟩), .pointer (some ⟨Ba, 0, none⟩)] _ _
  cases q with
  | none =>
    obtain ⟨rfl, rfl⟩ := hT
    have hn : holdR s f .nil .nil = [] := by unfold holdR; rw [show (if s = true then Tr.nil else Tr.nil) = Tr.nil by cases s <;> rfl, subR_nil]
    rw [hn]
    have H0 := Lib.hid h0
    clear h0 hY hn ha
    replace hc1 : W.cell? ⟨Bt, 0, none⟩ = some (.pointer none) := hc1
    go_enter Try.func41, Try.ntmps41
    go_wp2
    refine bodyPost_ret (results_none (by rfl) _ _ _) rfl ?_
    exact ⟨⟨_, rfl⟩, .inl H0.out⟩
  | some b =>
    obtain ⟨k0, k1, hb, hw, hta, htb⟩ := hT
    have HY := Lib.hid (show Yields Try.prog n₀ (fun k => k = Ba) l (holdR s f ta tb) J Jx from hY)
    have H0 := Lib.hid h0
    have HJK := Lib.hid hJk
    have HOK := Lib.hid (show (if s then tb else ta).Ok from by cases s <;> assumption)
    have HIT := Lib.hid (show IsT (fun i => i < n₀) W s (if s then tb else ta) (if s then k1 else k0) from by cases s <;> assumption)
    have HA := Lib.hid ha
    have HAL := Lib.hid (addrL_length s f)
    have HROOT := Lib.hid (fun X => rootOf_any s f X)
    have HHOLDS := Lib.hid (fun (s0 : Bool) (g : Nat → Nat) (hg : ∀ i, g i < 256) (z : Int) (h0 : -9223372036854775808 ≤ z) (h1 : z ≤ 9223372036854775807) X => holds_any s0 g hg z h0 h1 s f hf X)
    have HNEXT := Lib.hid (fun (X : World) (r : Nat) (g : Nat → Nat) (z : Nat) (o : Int) (j0 j1 : Option Nat) (h : Nod X r s g z o j0 j1) (hr : rightB s f = true) => next_any h s f hf hr)
    obtain ⟨AL, hAL⟩ : ∃ AL, addrL s f = AL := ⟨_, rfl⟩
    rw [hAL] at HA HAL HROOT HHOLDS HNEXT
    have HRW := Lib.hid (show W.cell? ⟨b, 0, none⟩ = some (ptrV k0) ∧ W.cell? ⟨b, 1, none⟩ = some (ptrV k1) ∧ b < W.heap.size from ⟨by rw [hw.cell]; rfl, by rw [hw.cell]; rfl, hw.lt⟩)
    have HC1 := Lib.hid hBt2
    clear h0 hY hJk ha hw hta htb oka okb hAL hBt2
    replace hc1 : W.cell? ⟨Bt, 0, none⟩ = some (.pointer (some ⟨b, 0, none⟩)) := hc1
    go_enter Try.func41, Try.ntmps41
    go_upto_region 1 with fail
    go_cut [4] (fun t4 X => t4 = ptrV (if s then k1 else k0) ∧ Below W.heap.size W X)
    case first =>
      have HSC := Lib.hid (show ∀ X, Below W.heap.size W X → X.cell? ⟨Bt, 0, none⟩ = some (.pointer (some ⟨b, 0, none⟩)) ∧ X.cell? ⟨b, 0, none⟩ = some (ptrV k0) ∧ X.cell? ⟨b, 1, none⟩ = some (ptrV k1) ∧ Whole X Ba 27 AL.toArray from fun X h => ⟨(h.cell (p := ⟨Bt, 0, none⟩) HC1.out).trans hc1, (h.cell (p := ⟨b, 0, none⟩) HRW.out.2.2).trans HRW.out.1, (h.cell (p := ⟨b, 1, none⟩) HRW.out.2.2).trans HRW.out.2.1, HA.out.below h HA.out.lt⟩)
      refine region_drew (fun V => Below W.heap.size W V) (by kernel_rfl) (Below.drew (Below.refl _ _)) (fun hS => ?_)
      refine take 0 _ rfl (by kernel_rfl) (by kernel_rfl) (by kernel_rfl) (fun _ _ _ h => h) (by rfl) hS (by intro w hw; have hcl := (HSC.out w hw).1; go_simp; with_reducible rfl) ?_
      try simp only [Act.put, List.setIfInBounds_toArray, List.set_cons_zero, List.set_cons_succ]
      refine take 1 (.agg AL.toArray) rfl (by kernel_rfl) (by kernel_rfl) (by kernel_rfl) (fun _ _ _ h => h) (by rfl) hS (fun w hw => run_load_in 27 (.tmp 2) rfl Ba rfl AL.toArray 17 (by rw [List.size_toArray, HAL.out]) (HSC.out w hw).2.2.2 rfl rfl (by kernel_rfl)) ?_
      try simp only [Act.put, List.setIfInBounds_toArray, List.set_cons_zero, List.set_cons_succ]
      refine take 3 _ rfl (by kernel_rfl) (by kernel_rfl) (by kernel_rfl) (fun _ _ _ h => h) (by rfl) hS (by intro w _; go_simp; with_reducible rfl) ?_
      try simp only [Act.put, List.setIfInBounds_toArray, List.set_cons_zero, List.set_cons_succ]
      refine take 4 _ rfl (by kernel_rfl) (by kernel_rfl) (by kernel_rfl) (fun _ _ _ h => h) (by rfl) hS (by intro w _; go_simp; with_reducible rfl) ?_
      try simp only [Act.put, List.setIfInBounds_toArray, List.set_cons_zero, List.set_cons_succ]
      refine alone 2 rfl (by kernel_rfl) (by rfl) ?_
      intro K hK
      go_simp
      refine (HROOT.out _).mono ?_
      rintro e X ⟨rfl, hbx⟩
      have hS2 : Below W.heap.size W X := hS.trans (hbx.mono hS.size)
      go_simp
      refine hK.out _ _ hS2 ?_
      clear hK K hS hbx
      try simp only [Act.put, List.setIfInBounds_toArray, List.set_cons_zero, List.set_cons_succ]
      have hS := hS2
      cases s with
      | true =>
        refine take 5 _ rfl (by kernel_rfl) (by kernel_rfl) (by kernel_rfl) (fun _ _ _ h => h) (by rfl) hS (by intro w _; go_simp; with_reducible rfl) ?_
        try simp only [Act.put, List.setIfInBounds_toArray, List.set_cons_zero, List.set_cons_succ]
        refine take 6 _ rfl (by kernel_rfl) (by kernel_rfl) (by kernel_rfl) (fun _ _ _ h => h) (by rfl) hS (by intro w hw; have hcl := (HSC.out w hw).2.2.1; go_simp; with_reducible rfl) ?_
        try simp only [Act.put, List.setIfInBounds_toArray, List.set_cons_zero, List.set_cons_succ]
        refine take 7 _ rfl (by kernel_rfl) (by kernel_rfl) (by kernel_rfl) (fun _ _ _ h => h) (by rfl) hS (by intro w _; go_simp; with_reducible rfl) ?_
        try simp only [Act.put, List.setIfInBounds_toArray, List.set_cons_zero, List.set_cons_succ]
        refine region_end (by kernel_rfl) ?_
        go_wp2_with fail
        go_meet
        exact ⟨rfl, hS2⟩
      | false =>
        refine take 5 _ rfl (by kernel_rfl) (by kernel_rfl) (by kernel_rfl) (fun _ _ _ h => h) (by rfl) hS (by intro w _; go_simp; with_reducible rfl) ?_
        try simp only [Act.put, List.setIfInBounds_toArray, List.set_cons_zero, List.set_cons_succ]
        refine take 6 _ rfl (by kernel_rfl) (by kernel_rfl) (by kernel_rfl) (fun _ _ _ h => h) (by rfl) hS (by intro w hw; have hcl := (HSC.out w hw).2.1; go_simp; with_reducible rfl) ?_
        try simp only [Act.put, List.setIfInBounds_toArray, List.set_cons_zero, List.set_cons_succ]
        refine take 7 _ rfl (by kernel_rfl) (by kernel_rfl) (by kernel_rfl) (fun _ _ _ h => h) (by rfl) hS (by intro w _; go_simp; with_reducible rfl) ?_
        try simp only [Act.put, List.setIfInBounds_toArray, List.set_cons_zero, List.set_cons_succ]
        refine region_end (by kernel_rfl) ?_
        go_wp2_with fail
        go_meet
        exact ⟨rfl, hS2⟩
    case rest =>
      obtain ⟨rfl, hwc⟩ := hcut
      have HSTART := Lib.hid (show IsT (fun i => i < n₀) wc s (if s then tb else ta) (if s then k1 else k0) ∧ J [] wc ∧ Whole wc Ba 27 AL.toArray ∧ n₀ ≤ wc.heap.size from ⟨isT_low HIT.out (hwc.mono hnW), HJK.out _ _ _ H0.out hwc, HA.out.below hwc HA.out.lt, Nat.le_trans hnW hwc.size⟩)
      clear HIT H0 HA HRW HC1 hc1 hwc HROOT hnW
      generalize (if s then k1 else k0) = kk at HSTART ⊢
      go_wp2
      go_loopw [4] (fun v X => ∃ (qq : Option Nat) (t : Tr) (pre : List Rt), v = ptrV qq ∧ t.Ok ∧ IsT (fun i => i < n₀) X s t qq ∧ J pre X ∧ Whole X Ba 27 AL.toArray ∧ n₀ ≤ X.heap.size ∧ pre ++ subR s f t = holdR s f ta tb) (fun v X => leftT v X)
      case atStart => exact ⟨kk, _, [], rfl, HOK.out, HSTART.out.1, HSTART.out.2.1, HSTART.out.2.2.1, HSTART.out.2.2.2, rfl⟩
      case round =>
        obtain ⟨qq, t, pre, rfl, hok, hit, hJ, hA, hn, hL⟩ := hrel
        cases t with
        | nil =>
          have hqq : qq = none := hit
          subst hqq
          rw [subR_nil, List.append_nil] at hL
          subst hL
          have HJ := Lib.hid hJ
          clear hJ hA hit hok
          rw [show ptrV none = .pointer none from rfl]
          go_upto_region 2 with fail
          refine region_drew (fun _ => True) (by kernel_rfl) trivial (fun hS => ?_)
          refine take 0 _ rfl (by kernel_rfl) (by kernel_rfl) (by kernel_rfl) (fun _ _ _ h => h) (by rfl) hS (by intro w _; go_simp; with_reducible rfl) ?_
          try simp only [Act.put, List.setIfInBounds_toArray, List.set_cons_zero, List.set_cons_succ]
          refine take 1 _ rfl (by kernel_rfl) (by kernel_rfl) (by kernel_rfl) (fun _ _ _ h => h) (by rfl) hS (by intro w _; go_simp; with_reducible rfl) ?_
          try simp only [Act.put, List.setIfInBounds_toArray, List.set_cons_zero, List.set_cons_succ]
          refine take 2 _ rfl (by kernel_rfl) (by kernel_rfl) (by kernel_rfl) (fun _ _ _ h => h) (by rfl) hS (by intro w _; go_simp; with_reducible rfl) ?_
          try simp only [Act.put, List.setIfInBounds_toArray, List.set_cons_zero, List.set_cons_succ]
          refine pass 3 rfl (by kernel_rfl) (by kernel_rfl) (by kernel_rfl) (fun _ _ _ h => h) (by rfl) hS ?_
          try simp only [Act.put, List.setIfInBounds_toArray, List.set_cons_zero, List.set_cons_succ]
          refine pass 4 rfl (by kernel_rfl) (by kernel_rfl) (by kernel_rfl) (fun _ _ _ h => h) (by rfl) hS ?_
          try simp only [Act.put, List.setIfInBounds_toArray, List.set_cons_zero, List.set_cons_succ]
          refine pass 5 rfl (by kernel_rfl) (by kernel_rfl) (by kernel_rfl) (fun _ _ _ h => h) (by rfl) hS ?_
          try simp only [Act.put, List.setIfInBounds_toArray, List.set_cons_zero, List.set_cons_succ]
          refine pass 6 rfl (by kernel_rfl) (by kernel_rfl) (by kernel_rfl) (fun _ _ _ h => h) (by rfl) hS ?_
          try simp only [Act.put, List.setIfInBounds_toArray, List.set_cons_zero, List.set_cons_succ]
          refine pass 7 rfl (by kernel_rfl) (by kernel_rfl) (by kernel_rfl) (fun _ _ _ h => h) (by rfl) hS ?_
          try simp only [Act.put, List.setIfInBounds_toArray, List.set_cons_zero, List.set_cons_succ]
          refine pass 8 rfl (by kernel_rfl) (by kernel_rfl) (by kernel_rfl) (fun _ _ _ h => h) (by rfl) hS ?_
          try simp only [Act.put, List.setIfInBounds_toArray, List.set_cons_zero, List.set_cons_succ]
          refine pass 9 rfl (by kernel_rfl) (by kernel_rfl) (by kernel_rfl) (fun _ _ _ h => h) (by rfl) hS ?_
          try simp only [Act.put, List.setIfInBounds_toArray, List.set_cons_zero, List.set_cons_succ]
          refine take 10 _ rfl (by kernel_rfl) (by kernel_rfl) (by kernel_rfl) (fun _ _ _ h => h) (by rfl) hS (by intro w _; go_simp; with_reducible rfl) ?_
          try simp only [Act.put, List.setIfInBounds_toArray, List.set_cons_zero, List.set_cons_succ]
          refine region_end (by kernel_rfl) ?_
          go_wp2_with fail
          go_end0
          exact ⟨⟨_, rfl⟩, .inl (HJK.out _ _ _ HJ.out (Below.drew (Below.refl _ _)))⟩
        | node p o a b2 =>
          obtain ⟨r, g, j0, j1, rfl, hr, hg, hrp, hbs, ho, hnd, hta, htb⟩ := hit.nod
          have hz := (right_parts hrp).2.2.1
          have hd8 := digits_le s
          have hle : (p.length : Int) ≤ 128 := by omega
          have HIFF := Lib.hid (holds_iff (s' := s) hg hf hrp)
          rw [hbs] at HIFF
          have HLEFT := Lib.hid (left_node hnd)
          have hcells : routeL s g (p.length : Int) o = (Rt.mk s p o).cells := by
            have := route_byt hg hrp o
            rw [hbs] at this
            exact this
          have HSN := Lib.hid (show ∀ V, Below wr.heap.size wr V → Nod V r s g p.length o j0 j1 ∧ Whole V Ba 27 AL.toArray from fun V h => ⟨⟨hnd.row.below h hnd.row.lt⟩, hA.below h hA.lt⟩)
          have HND := Lib.hid (show ∀ V, Nod V r s g p.length o j0 j1 → V.rangeAt r 0 (prefL s g p.length) from fun V h => h.pref)
          have HPL := Lib.hid (prefL_length s g (p.length : Int))
          have HH := Lib.hid (fun X => HHOLDS.out s g hg (p.length : Int) (by omega) (by omega) X)
          have HKID := Lib.hid (show IsT (fun i => i < n₀) wr s (nextT s f p.length a b2) (nextK s f p.length j0 j1) from isT_next f p.length hta htb)
          have HOKN := Lib.hid (ok_next hok s f p.length)
          obtain ⟨PL, hPL⟩ : ∃ PL, prefL s g (p.length : Int) = PL := ⟨_, rfl⟩
          rw [hPL] at HND HPL HH
          have HJ := Lib.hid hJ
          have HN0 := Lib.hid hn
          have HL := Lib.hid hL
          clear hPL hJ hA hn hnd hta htb hit hok hL HHOLDS
          rw [show ptrV (some r) = .pointer (some ⟨r, 0, none⟩) from rfl]
          go_upto_region 2 with fail
          obtain ⟨hb, hhb⟩ : ∃ hb, holdsPB s g (p.length : Int) s f = hb := ⟨_, rfl⟩
          rw [hhb] at HIFF HH
          clear hhb
          refine region_drew (fun V => Below wr.heap.size wr V) (by kernel_rfl) (Below.drew (Below.refl _ _)) (fun hS => ?_)
          refine take 0 _ rfl (by kernel_rfl) (by kernel_rfl) (by kernel_rfl) (fun _ _ _ h => h) (by rfl) hS (by intro w _; go_simp; with_reducible rfl) ?_
          try simp only [Act.put, List.setIfInBounds_toArray, List.set_cons_zero, List.set_cons_succ]
          refine take 1 _ rfl (by kernel_rfl) (by kernel_rfl) (by kernel_rfl) (fun _ _ _ h => h) (by rfl) hS (by intro w _; go_simp; with_reducible rfl) ?_
          try simp only [Act.put, List.setIfInBounds_toArray, List.set_cons_zero, List.set_cons_succ]
          refine take 2 _ rfl (by kernel_rfl) (by kernel_rfl) (by kernel_rfl) (fun _ _ _ h => h) (by rfl) hS (by intro w _; go_simp; with_reducible rfl) ?_
          try simp only [Act.put, List.setIfInBounds_toArray, List.set_cons_zero, List.set_cons_succ]
          refine take 3 _ rfl (by kernel_rfl) (by kernel_rfl) (by kernel_rfl) (fun _ _ _ h => h) (by rfl) hS (by intro w _; go_simp; with_reducible rfl) ?_
          try simp only [Act.put, List.setIfInBounds_toArray, List.set_cons_zero, List.set_cons_succ]
          refine take 4 _ rfl (by kernel_rfl) (by kernel_rfl) (by kernel_rfl) (fun _ _ _ h => h) (by rfl) hS (by intro w _; go_simp; with_reducible rfl) ?_
          try simp only [Act.put, List.setIfInBounds_toArray, List.set_cons_zero, List.set_cons_succ]
          refine take 5 _ rfl (by kernel_rfl) (by kernel_rfl) (by kernel_rfl) (fun _ _ _ h => h) (by rfl) hS (by intro w _; go_simp; with_reducible rfl) ?_
          try simp only [Act.put, List.setIfInBounds_toArray, List.set_cons_zero, List.set_cons_succ]
          refine take 6 _ rfl (by kernel_rfl) (by kernel_rfl) (by kernel_rfl) (fun _ _ _ h => h) (by rfl) hS (by intro w _; go_simp; with_reducible rfl) ?_
          try simp only [Act.put, List.setIfInBounds_toArray, List.set_cons_zero, List.set_cons_succ]
          refine take 7 (.agg PL.toArray) rfl (by kernel_rfl) (by kernel_rfl) (by kernel_rfl) (fun _ _ _ h => h) (by rfl) hS (fun w hw => run_mid_in 29 (.tmp 20) rfl r 0 rfl PL _ (HND.out w (HSN.out w hw).1) rfl rfl (by rw [HPL.out]; kernel_rfl)) ?_
          try simp only [Act.put, List.setIfInBounds_toArray, List.set_cons_zero, List.set_cons_succ]
          refine take 8 (.agg AL.toArray) rfl (by kernel_rfl) (by kernel_rfl) (by kernel_rfl) (fun _ _ _ h => h) (by rfl) hS (fun w hw => run_load_in 27 (.tmp 2) rfl Ba rfl AL.toArray 17 (by rw [List.size_toArray, HAL.out]) (HSN.out w hw).2 rfl rfl (by kernel_rfl)) ?_
          try simp only [Act.put, List.setIfInBounds_toArray, List.set_cons_zero, List.set_cons_succ]
          refine alone 9 rfl (by kernel_rfl) (by rfl) ?_
          intro K hK
          go_simp
          refine (HH.out _).mono ?_
          rintro e X ⟨rfl, hbx⟩
          have hS2 : Below wr.heap.size wr X := hS.trans (hbx.mono hS.size)
          go_simp
          refine hK.out _ _ hS2 ?_
          clear hK K hS hbx
          try simp only [Act.put, List.setIfInBounds_toArray, List.set_cons_zero, List.set_cons_succ]
          have hS := hS2
          refine take 10 _ rfl (by kernel_rfl) (by kernel_rfl) (by kernel_rfl) (fun _ _ _ h => h) (by rfl) hS (by intro w _; go_simp; with_reducible rfl) ?_
          try simp only [Act.put, List.setIfInBounds_toArray, List.set_cons_zero, List.set_cons_succ]
          refine region_end (by kernel_rfl) ?_
          clear hS
          have HBX := Lib.hid hS2
          clear hS2
          cases hb with
          | false =>
            have hno := subR_no (s := s) (f := f) (p := p) (o := o) (a := a) (b := b2) (fun c => by have := HIFF.out.2 ⟨c.1, rfl, c.2⟩; cases this)
            have HFIN := Lib.hid (show J (holdR s f ta tb) X from by
              have h1 := HL.out
              rw [hno, List.append_nil] at h1
              rw [← h1]
              exact HJK.out _ _ _ HJ.out HBX.out)
            clear hno
            go_wp2_with fail
            go_end0
            exact ⟨⟨_, rfl⟩, .inl HFIN.out⟩
          | true =>
            have hyes := HIFF.out.1 rfl
            have HRT := Lib.hid hyes.1
            have hsub := subR_yes (o := o) (a := a) (b := b2) hyes.1 hyes.2.2
            have HL2 := Lib.hid (show pre ++ ((if o = 0 then [] else [Rt.mk s p o]) ++ subR s f (nextT s f p.length a b2)) = holdR s f ta tb from by rw [← hsub]; exact HL.out)
            have HNX := Lib.hid (show ∀ V, Below n₀ wr V → n₀ ≤ V.heap.size → Whole V Ba 27 AL.toArray → Calls Try.prog 43 #[.pointer (some ⟨r, 0, none⟩), .agg AL.toArray] V fun e Y => e = .returned (ptrV (nextK s f p.length j0 j1)) ∧ Below V.heap.size V Y from fun V hV _ _ => HNEXT.out V r g p.length o j0 j1 ⟨(HSN.out wr (Below.refl _ _)).1.row.below hV hr⟩ HRT.out)
            have HREL := Lib.hid (show ∀ V Y (R : List Rt), R = (if o = 0 then [] else [Rt.mk s p o]) → Below n₀ wr V → n₀ ≤ V.heap.size → Whole V Ba 27 AL.toArray → J (pre ++ R) V → Below V.heap.size V Y →
                (∃ (qq : Option Nat) (t : Tr) (pre : List Rt), ptrV (nextK s f p.length j0 j1) = ptrV qq ∧ t.Ok ∧ IsT (fun i => i < n₀) Y s t qq ∧ J pre Y ∧ Whole Y Ba 27 AL.toArray ∧ n₀ ≤ Y.heap.size ∧ pre ++ subR s f t = holdR s f ta tb) ∧ leftT (ptrV (nextK s f p.length j0 j1)) Y < 1000 - p.length from fun V Y R hR hV hn hA hJ hY => by
              have hi := isT_low HKID.out (hV.trans (hY.mono hn))
              obtain ⟨c, hc⟩ := HOKN.out.2
              exact ⟨⟨_, _, pre ++ R, rfl, HOKN.out.1, hi, HJK.out _ _ _ hJ hY, hA.below hY hA.lt, Nat.le_trans hn hY.size, by rw [hR, List.append_assoc]; exact HL2.out⟩, left_less hi hc (by omega)⟩)
            have HX := Lib.hid (show J pre X ∧ Below n₀ wr X ∧ n₀ ≤ X.heap.size ∧ Whole X Ba 27 AL.toArray ∧ Nod X r s g p.length o j0 j1 from ⟨HJK.out _ _ _ HJ.out HBX.out, HBX.out.mono HN0.out, Nat.le_trans HN0.out HBX.out.size, (HSN.out X HBX.out).2, (HSN.out X HBX.out).1⟩)
            clear hyes hsub HL HIFF HJ HH HPL HND HSN HBX HKID HOKN HNEXT
            go_upto_region 3 with fail
            refine (wpIn_wide (n := 3)).1 ?_
            have hdd : ∀ k : Nat, (Fence.wide.depth.isSome = true → 1 ≤ k) := fun k h => by cases h
            by_cases ho0 : o = 0
            · have HIS := Lib.hid (callsIn_wide.2 (isRoute_any HX.out.2.2.2.2) : CallsIn Fence.wide (3 - 1) _ _ _ _ _)
              rw [decide_eq_false (fun c => c ho0)] at HIS
              rw [if_pos ho0] at HREL
              clear ho0 HL2
              gi_wp2_with (first
                | ((try refine ⟨trivial, ?_⟩); (try refine ⟨hdd _, ?_⟩); gi_at_call 42; refine HIS.out.mono ?_; clear HIS; rintro e X3 ⟨rfl, rfl⟩))
              refine ⟨fun _ h => (by cases h), ?_⟩
              gi_wp2
              go_wp2_with (first
                | (refine wpList_load_row rfl 27 (.tmp 2) rfl Ba rfl 27 AL.toArray (0, 0) _ HX.out.2.2.2.1 rfl rfl (by rw [List.size_toArray, HAL.out]; kernel_rfl) ?_)
                | (go_at_call 43; refine (HNX.out _ HX.out.2.1 HX.out.2.2.1 HX.out.2.2.2.1).mono ?_; rintro e X4 ⟨rfl, hb4⟩))
              have hrel := HREL.out X X4 [] rfl HX.out.2.1 HX.out.2.2.1 HX.out.2.2.2.1 (by rw [List.append_nil]; exact HX.out.1) hb4
              go_roundw
              case rel => exact hrel.1
              case measure => rw [show leftT (Value.pointer (some ⟨r, 0, none⟩)) wr = 1000 - p.length from HLEFT.out]; exact hrel.2
            · have HIS := Lib.hid (callsIn_wide.2 (isRoute_any HX.out.2.2.2.2) : CallsIn Fence.wide (3 - 1) _ _ _ _ _)
              rw [decide_eq_true ho0] at HIS
              rw [if_neg ho0] at HREL HL2
              clear ho0
              obtain ⟨fn, tmps, assign, body, hyy, hRR⟩ := HY.out (3 - 1) pre ⟨s, p, o⟩ X HX.out.1 (by rw [← HL2.out, ← List.append_assoc]; exact List.prefix_append _ _)
              have HRR := Lib.hid hRR
              have hrt := HX.out.2.2.2.2.route
              have HLN := Lib.hid (routeL_length s g (p.length : Int) o)
              rw [hcells] at hrt HLN
              have HPP := Lib.hid (show pre ++ [Rt.mk s p o] <+: holdR s f ta tb from by rw [← HL2.out, ← List.append_assoc]; exact List.prefix_append _ _)
              obtain ⟨CL, hCL⟩ : ∃ CL, (Rt.mk s p o).cells = CL := ⟨_, rfl⟩
              rw [hCL] at hrt HLN hyy
              have HRTE := Lib.hid hrt
              clear hcells hCL hRR hrt HL2
              gi_wp2_with (first
                | (refine listIn_value (fun _ => trivial) (by rfl) (fun c h => by cases h) _ (run_mid_in 38 (.tmp 31) rfl r 0 rfl CL _ HRTE.out rfl rfl (by rw [HLN.out]; kernel_rfl)) ?_)
                | ((try refine ⟨trivial, ?_⟩); (try refine ⟨hdd _, ?_⟩); gi_at_call 42; refine HIS.out.mono ?_; clear HIS; rintro e X3 ⟨rfl, rfl⟩)
                | ((try refine ⟨hdd _, ?_⟩); refine HRR.out.mono ?_; clear HRR; rintro e X3 (⟨rfl, hj3, hb3, hs3⟩ | ⟨rfl, hx3⟩)))
              · have HX3 := Lib.hid (show J (pre ++ [Rt.mk s p o]) X3 ∧ Below n₀ wr X3 ∧ n₀ ≤ X3.heap.size ∧ Whole X3 Ba 27 AL.toArray from ⟨hj3, HX.out.2.1.trans hb3, Nat.le_trans HX.out.2.2.1 hb3.size, (hs3 Ba rfl).trans HX.out.2.2.2.1⟩)
                clear hj3 hb3 hs3 hyy
                go_wp2_with (first
                  | (refine wpList_load_row rfl 27 (.tmp 2) rfl Ba rfl 27 AL.toArray (0, 0) _ HX3.out.2.2.2 rfl rfl (by rw [List.size_toArray, HAL.out]; kernel_rfl) ?_)
                  | (go_at_call 43; refine (HNX.out _ HX3.out.2.1 HX3.out.2.2.1 HX3.out.2.2.2).mono ?_; rintro e X4 ⟨rfl, hb4⟩))
                have hrel := HREL.out X3 X4 [⟨s, p, o⟩] rfl HX3.out.2.1 HX3.out.2.2.1 HX3.out.2.2.2 HX3.out.1 hb4
                go_roundw
                case rel => exact hrel.1
                case measure => rw [show leftT (Value.pointer (some ⟨r, 0, none⟩)) wr = 1000 - p.length from HLEFT.out]; exact hrel.2
              · have HF := Lib.hid (show ∃ p, p <+: holdR s f ta tb ∧ Jx p X3 from ⟨_, HPP.out, hx3⟩)
                clear hx3 hyy
                go_wp2_with fail
                refine bodyPost_ret (results_none (by rfl) _ _ _) rfl ?_
                exact ⟨⟨_, rfl⟩, .inr HF.out⟩
end Tri
end Go.Proofs.Ytcpfchfhcfdcpaa
