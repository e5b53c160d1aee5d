/- Package trie: Put, Drop. -/
import Derived.Test.YtcpfchfhcfdcpaaTrRoutes
import Derived.Deep.DeepCutAuto
namespace Go.Proofs.Ytcpfchfhcfdcpaa
namespace Tri
open Go.ChangeShapes Go.WideShapes Go.ChangeAt Go.RowKit
open Num Mem Words Chacha Aead Poly Quiet Ops Adr

def putE (s : Bool) (g : Nat → Nat) (z o : Int) (ta tb : Tr) : Nat := if rightPB s g z = false then 41 else if o < 1 then 1 else if getB (holdR s g ta tb) s g z = false ∧ 64 ≤ (routes2 ta tb).length then 5 else 0
def insA (s : Bool) (p : Bs) (o : Int) (ta : Tr) : Tr := if s then ta else ta.ins p o
def insB (s : Bool) (p : Bs) (o : Int) (tb : Tr) : Tr := if s then tb.ins p o else tb
def delA (s : Bool) (p : Bs) (ta : Tr) : Tr := if s then ta else ta.del p
def delB (s : Bool) (p : Bs) (tb : Tr) : Tr := if s then tb.del p else tb
def dropE (s : Bool) (g : Nat → Nat) (z : Int) (ta tb : Tr) : Nat := if rightPB s g z = false then 41 else if getB (holdR s g ta tb) s g z = false then 4 else 0
theorem route_built2 (s : Bool) (g : Nat → Nat) (n o : Int) : Try.prog.built 38 [(0, .agg (prefL s g n).toArray), (1, .int .i64 o)] = some (routeL s g n o).toArray := by kernel_rfl
structure PuW (w : World) (PG : Array Value) (X : World) : Prop where
  p : Whole X w.heap.size 29 PG
  bel : Below w.heap.size w X
theorem PuW.below {w : World} {PG : Array Value} {X Y : World} (h : PuW w PG X) (hb : Below X.heap.size X Y) : PuW w PG Y := ⟨h.p.below hb h.p.lt, h.bel.trans (hb.mono h.bel.size)⟩
/-- a trie whose root of a kind is turned -/
theorem isTrie_turn {X : World} {O : Nat} {k0 k1 k : Option Nat} {s : Bool} {ta tb t : Tr} (h : Whole X O 81 #[ptrV k0, ptrV k1]) (ha : T0 X false ta k0) (hb : T0 X true tb k1) (hk : T0 X s t k) :
    IsTrie (fun _ => True) (X.setCell ⟨O, if s then 1 else 0, none⟩ (ptrV k)) (if s then ta else t) (if s then t else tb) (some O) := by
  refine ⟨if s then k0 else k, if s then k else k1, trivial, ?_, ?_, ?_⟩
  · have := h.put (if s then 1 else 0) (ptrV k)
    rw [trie_set] at this
    exact this
  · refine T0.setTrie ?_ h _ _
    cases s with
    | true => exact ha
    | false => exact hk
  · refine T0.setTrie ?_ h _ _
    cases s with
    | true => exact hk
    | false => exact hb
set_option maxRecDepth 100000 in
set_option maxHeartbeats 8000000 in
theorem put_any {A : Nat → Prop} {w : World} {ta tb : Tr} {q : Option Nat} (h : IsTrie A w ta tb q) (oka : ta.Ok) (okb : tb.Ok) (s : Bool) (g : Nat → Nat) (hg : ∀ i, g i < 256) (z : Int) (hz0 : -9223372036854775808 ≤ z) (hz1 : z ≤ 9223372036854775807) (o : Int) (ho : okI o) (hlen : (routes2 ta tb).length ≤ 64) :
    Calls Try.prog 21 #[ptrV q, .agg (prefL s g z).toArray, .int .i64 o] w fun e w' => ∃ k, e = .returned (.tuple #[ptrV k, .int .i64 (putE s g z o ta tb : Nat)]) ∧ Below w.heap.size w w' ∧ (putE s g z o ta tb ≠ 0 → k = none) ∧
      (putE s g z o ta tb = 0 → ∃ r, k = some r ∧ IsTrie (fun _ => True) w' (insA s (bs g z.toNat) o ta) (insB s (bs g z.toNat) o tb) (some r)) := by
  have HT := Lib.hid h.here
  have HPL := Lib.hid (prefL_length s g z)
  have HRP := Lib.hid (fun X => rightP_any s g hg z hz0 hz1 X)
  have HGET := Lib.hid (show ∀ X, Below w.heap.size w X → _ from fun X hX => get_any (h.here.low hX) oka okb s g hg z)
  have HCNT := Lib.hid (show ∀ X, Below w.heap.size w X → _ from fun X hX => count_any (h.here.low hX) (by omega))
  have HCOP := Lib.hid (show ∀ X, Below w.heap.size w X → _ from fun X hX => copied_any (h.here.low hX))
  have HROOT := Lib.hid (fun X => rootOf_any s g X)
  have HAL := Lib.hid (addrL_length s g)
  have HPR := Lib.hid (show ∀ X, PuW w (prefL s g z).toArray X → X.rangeAt w.heap.size 0 (addrL s g) from fun X h => pref_range h.p)
  have HRB := Lib.hid (route_built2 s g z o)
  have HWITH := Lib.hid (show rightPB s g z = true → ∀ X k0 k1, T0 X false ta k0 → T0 X true tb k1 → Calls Try.prog 37 #[ptrV (if s then k1 else k0), .agg (routeL s g z o).toArray] X fun e Y => ∃ r, e = .returned (.pointer (some ⟨r, 0, none⟩)) ∧ T0 Y s ((pickT s ta tb).ins (bs g z.toNat) o) (some r) ∧ Below X.heap.size X Y from fun hr X k0 k1 h0 h1 => by
    have hz := (right_parts hr).2.1
    have hzn : z = (z.toNat : Int) := by omega
    have h2 : T0 X s (pickT s ta tb) (if s then k1 else k0) := by cases s <;> assumption
    rw [hzn] at hr ⊢
    rw [Int.toNat_natCast]
    exact (with_any s g z.toNat o hg hr ho (pickT s ta tb) (ok_pick oka okb) (fun _ => True) X _ h2).mono fun e Y ⟨r, h1, h2, h3⟩ => ⟨r, h1, h2.keep fun _ _ _ h => ⟨trivial, h⟩, h3⟩)
  obtain ⟨AL, hAL⟩ : ∃ AL, addrL s g = AL := ⟨_, rfl⟩
  obtain ⟨PG, hPG⟩ : ∃ PG, prefL s g z = PG := ⟨_, rfl⟩
  obtain ⟨RL, hRL⟩ : ∃ RL, (routeL s g z o).toArray = RL := ⟨_, rfl⟩
  rw [hAL] at HAL HROOT HPR
  rw [hPG] at HPL HRP HGET HPR HRB ⊢
  rw [hRL] at HRB HWITH
  clear h hAL hPG hRL
  obtain ⟨pq, hpq⟩ : ∃ pq, ptrV q = pq := ⟨_, rfl⟩
  rw [hpq] at HGET HCNT HCOP ⊢
  clear hpq
  obtain ⟨GB, hGB⟩ : ∃ GB, getB (holdR s g ta tb) s g z = GB := ⟨_, rfl⟩
  obtain ⟨GO, hGO⟩ : ∃ GO, getO (holdR s g ta tb) s g z = GO := ⟨_, rfl⟩
  obtain ⟨CN, hCN⟩ : ∃ CN, (routes2 ta tb).length = CN := ⟨_, rfl⟩
  obtain ⟨RB, hRB⟩ : ∃ RB, rightPB s g z = RB := ⟨_, rfl⟩
  have HE := Lib.hid (show putE s g z o ta tb = if RB = false then 41 else if o < 1 then 1 else if GB = false ∧ 64 ≤ CN then 5 else 0 from by unfold putE; rw [hGB, hCN, hRB])
  rw [hGB, hGO] at HGET
  rw [hCN] at HCNT
  rw [hRB] at HRP HWITH
  clear hGB hGO hCN hRB hlen
  generalize putE s g z o ta tb = PE at HE ⊢
  go_enter Try.func21, Try.ntmps21
  go_upto_region 1 with fail
  refine cut_world (fun X => PuW w PG.toArray X) ⟨Whole.new _ _ _, below_alloc (Below.refl _ _) _⟩ ?_
  rintro W hW
  have HW := Lib.hid hW
  clear hW
  cases RB with
  | false =>
    rw [if_pos rfl] at HE
    have hE := HE.out
    subst hE
    clear HE
    go_wp2_with (first
      | (refine wpList_load_row rfl 29 (.tmp 4) rfl w.heap.size rfl 29 PG.toArray (0, 0) _ HW.out.p rfl rfl (by rw [List.size_toArray, HPL.out]; kernel_rfl) ?_)
      | (go_at_call 33; refine (HRP.out _).mono ?_; rintro e X ⟨rfl, hbx⟩; have HX := Lib.hid (HW.out.below hbx); clear hbx HW HRP))
    go_ret2
    exact ⟨none, rfl, HX.out.bel, fun _ => rfl, fun c => by cases c⟩
  | true =>
    rw [if_neg (by decide)] at HE
    by_cases ho1 : o < 1
    · rw [if_pos ho1] at HE
      have hE := HE.out
      subst hE
      have hlt : decide (o < 1) = true := decide_eq_true ho1
      clear HE
      go_wp2_with (first
        | (refine wpList_load_row rfl 29 (.tmp 4) rfl w.heap.size rfl 29 PG.toArray (0, 0) _ HW.out.p rfl rfl (by rw [List.size_toArray, HPL.out]; kernel_rfl) ?_)
        | (go_at_call 33; refine (HRP.out _).mono ?_; rintro e X ⟨rfl, hbx⟩; have HX := Lib.hid (HW.out.below hbx); clear hbx HW HRP))
      go_ret2
      exact ⟨none, rfl, HX.out.bel, fun _ => rfl, fun c => by cases c⟩
    · rw [if_neg ho1] at HE
      have hlt : decide (o < 1) = false := decide_eq_false ho1
      have hge : 1 ≤ o := by omega
      clear ho1
      go_upto_region 5 with (first
        | (refine wpList_load_row rfl 29 (.tmp 4) rfl w.heap.size rfl 29 PG.toArray (0, 0) _ HW.out.p rfl rfl (by rw [List.size_toArray, HPL.out]; kernel_rfl) ?_)
        | (go_at_call 33; refine (HRP.out _).mono ?_; rintro e X ⟨rfl, hbx⟩; have HX := Lib.hid (HW.out.below hbx); clear hbx HW HRP))
      clear hlt
      go_upto_region 6 with (first
        | (refine wpList_load_row rfl 29 (.tmp 4) rfl w.heap.size rfl 29 PG.toArray (0, 0) _ HX.out.p rfl rfl (by rw [List.size_toArray, HPL.out]; kernel_rfl) ?_)
        | (go_at_call 12; refine (HGET.out _ HX.out.bel).mono ?_; rintro e X2 ⟨rfl, hbx⟩; have HX2 := Lib.hid (HX.out.below hbx); clear hbx HX HGET))
      by_cases hfull : GB = false ∧ 64 ≤ CN
      · obtain ⟨rfl, hcn⟩ := hfull
        rw [if_pos ⟨rfl, hcn⟩] at HE
        have hE := HE.out
        subst hE
        have hc : decide ((64 : Int) ≤ (CN : Int)) = true := decide_eq_true (by omega)
        clear HE
        go_wp2_with (first
          | (go_at_call 14; refine (HCNT.out _ HX2.out.bel).mono ?_; rintro e X3 ⟨rfl, hbx⟩; have HX3 := Lib.hid (HX2.out.below hbx); clear hbx HX2 HCNT))
        go_ret2
        exact ⟨none, rfl, HX3.out.bel, fun _ => rfl, fun c => by cases c⟩
      · rw [if_neg hfull] at HE
        have hE := HE.out
        subst hE
        clear HE
        go_cut [29] (fun t29 X => t29 = .bool false ∧ PuW w PG.toArray X)
        case first =>
          cases GB with
          | true =>
            go_wp2_with fail
            go_meet
            exact ⟨rfl, HX2.out⟩
          | false =>
            have hc : decide ((64 : Int) ≤ (CN : Int)) = false := decide_eq_false (fun c => hfull ⟨rfl, by omega⟩)
            have hc2 : CN < 64 := by
              rcases Nat.lt_or_ge CN 64 with h | h
              · exact h
              · exact absurd ⟨rfl, h⟩ hfull
            clear hfull
            go_wp2_with (first
              | (go_at_call 14; refine (HCNT.out _ HX2.out.bel).mono ?_; rintro e X3 ⟨rfl, hbx⟩; have HX3 := Lib.hid (HX2.out.below hbx); clear hbx HX2 HCNT))
            go_meet
            exact ⟨rfl, HX3.out⟩
        case rest =>
          obtain ⟨rfl, hx3⟩ := hcut
          have HX3 := Lib.hid hx3
          have HWI := Lib.hid (HWITH.out trivial)
          clear hx3 HX2 hfull HCNT HWITH
          go_upto_region 10 with (first
            | (go_at_call 35; refine (HCOP.out _ HX3.out.bel).mono ?_; rintro e X4 ⟨k0, k1, rfl, rfl, hk0, hk1⟩; have HX4 := Lib.hid (show PuW w PG.toArray (wc.alloc (.cells #[ptrV k0, ptrV k1] 81)) ∧ Whole (wc.alloc (.cells #[ptrV k0, ptrV k1] 81)) wc.heap.size 81 #[ptrV k0, ptrV k1] ∧ T0 (wc.alloc (.cells #[ptrV k0, ptrV k1] 81)) false ta k0 ∧ T0 (wc.alloc (.cells #[ptrV k0, ptrV k1] 81)) true tb k1 from ⟨HX3.out.below (below_alloc (Below.refl _ _) _), Whole.new _ _ _, T0.below hk0 (below_alloc (Below.refl _ _) _), T0.below hk1 (below_alloc (Below.refl _ _) _)⟩); have HM := Lib.hid (HX3.out.p.lt); clear hk0 hk1; generalize wc.alloc (.cells #[ptrV k0, ptrV k1] 81) = X5 at HX4 ⊢; generalize wc.heap.size = O at HX4 HM ⊢)
            | (refine wpList_load_mid rfl 27 (.tmp 32) rfl w.heap.size 0 rfl AL _ (HPR.out _ HX4.out.1) rfl rfl (by rw [HAL.out]; kernel_rfl) ?_)
            | (go_at_call 36; refine (HROOT.out _).mono ?_; rintro e X6 ⟨rfl, hbx⟩; have HX6 := Lib.hid (show PuW w PG.toArray X6 ∧ Whole X6 O 81 #[ptrV k0, ptrV k1] ∧ T0 X6 false ta k0 ∧ T0 X6 true tb k1 from ⟨HX4.out.1.below hbx, HX4.out.2.1.below hbx HX4.out.2.1.lt, T0.below HX4.out.2.2.1 hbx, T0.below HX4.out.2.2.2 hbx⟩); clear hbx HROOT HX4))
          cases s with
          | true =>
            rw [show (if true = true then (1 : Int) else 0) = 1 from rfl]
            have hc0 : X6.drew.cell? ⟨O, 1, none⟩ = some (ptrV k1) := by rw [(HX6.out.2.1.drew).cell]; rfl
            have HCELL := Lib.hid hc0
            clear hc0
            refine region_drew (fun V => Whole V w.heap.size 29 PG.toArray) (by kernel_rfl) HX6.out.1.p.drew (fun hS => ?_)
            refine take 0 _ rfl (by kernel_rfl) (by kernel_rfl) (by kernel_rfl) (fun _ _ _ h => h) (by rfl) hS (by intro w _; go_simp; with_reducible rfl) ?_
            try simp only [Act.put, List.setIfInBounds_toArray, List.set_cons_zero, List.set_cons_succ]
            refine take 1 _ rfl (by kernel_rfl) (by kernel_rfl) (by kernel_rfl) (fun _ _ _ h => h) (by rfl) hS (by intro w _; go_simp; with_reducible rfl) ?_
            try simp only [Act.put, List.setIfInBounds_toArray, List.set_cons_zero, List.set_cons_succ]
            refine take 2 _ rfl (by kernel_rfl) (by kernel_rfl) (by kernel_rfl) (fun _ _ _ h => h) (by rfl) hS (by intro w _; go_simp; with_reducible rfl) ?_
            try simp only [Act.put, List.setIfInBounds_toArray, List.set_cons_zero, List.set_cons_succ]
            refine take 3 _ rfl (by kernel_rfl) (by kernel_rfl) (by kernel_rfl) (fun _ _ _ h => h) (by rfl) hS (by intro w _; go_simp; with_reducible rfl) ?_
            try simp only [Act.put, List.setIfInBounds_toArray, List.set_cons_zero, List.set_cons_succ]
            refine take 4 _ rfl (by kernel_rfl) (by kernel_rfl) (by kernel_rfl) (fun _ _ _ h => h) (by rfl) hS (by intro w _; go_simp; with_reducible rfl) ?_
            try simp only [Act.put, List.setIfInBounds_toArray, List.set_cons_zero, List.set_cons_succ]
            refine take 5 _ rfl (by kernel_rfl) (by kernel_rfl) (by kernel_rfl) (fun _ _ _ h => h) (by rfl) hS (by intro w _; go_simp; with_reducible rfl) ?_
            try simp only [Act.put, List.setIfInBounds_toArray, List.set_cons_zero, List.set_cons_succ]
            refine take 6 _ rfl (by kernel_rfl) (by kernel_rfl) (by kernel_rfl) (fun _ _ _ h => h) (by rfl) hS (by intro w _; go_simp; with_reducible rfl) ?_
            try simp only [Act.put, List.setIfInBounds_toArray, List.set_cons_zero, List.set_cons_succ]
            refine take 8 (.agg PG.toArray) rfl (by kernel_rfl) (by kernel_rfl) (by kernel_rfl) (fun _ _ _ h => h) (by rfl) hS (fun w0 hw => run_load_in 29 (.tmp 4) rfl w.heap.size rfl PG.toArray 18 (by rw [List.size_toArray, HPL.out]) hw rfl rfl (by kernel_rfl)) ?_
            try simp only [Act.put, List.setIfInBounds_toArray, List.set_cons_zero, List.set_cons_succ]
            refine take 9 _ rfl (by kernel_rfl) (by kernel_rfl) (by kernel_rfl) (fun _ _ _ h => h) (by rfl) hS (by intro w _; go_simp; with_reducible rfl) ?_
            try simp only [Act.put, List.setIfInBounds_toArray, List.set_cons_zero, List.set_cons_succ]
            refine take 10 (.agg RL) rfl (by kernel_rfl) (by kernel_rfl) (by kernel_rfl) (fun _ _ _ h => h) (by rfl) hS (fun w0 hw => run_built2 38 0 1 (.tmp 43) (.tmp 44) rfl (.agg PG.toArray) (.int .i64 o) rfl rfl RL HRB.out) ?_
            try simp only [Act.put, List.setIfInBounds_toArray, List.set_cons_zero, List.set_cons_succ]
            refine take 12 _ rfl (by kernel_rfl) (by kernel_rfl) (by kernel_rfl) (fun _ _ _ h => h) (by rfl) hS (by intro w _; go_simp; with_reducible rfl) ?_
            try simp only [Act.put, List.setIfInBounds_toArray, List.set_cons_zero, List.set_cons_succ]
            refine take 13 _ rfl (by kernel_rfl) (by kernel_rfl) (by kernel_rfl) (fun _ _ _ h => h) (by rfl) hS (by intro w _; go_simp; with_reducible rfl) ?_
            try simp only [Act.put, List.setIfInBounds_toArray, List.set_cons_zero, List.set_cons_succ]
            refine alone_run 7 (ptrV k1) rfl (by kernel_rfl) (by rfl) hS (by have hc := HCELL.out; go_simp; try with_reducible rfl) ?_
            try simp only [Act.put, List.setIfInBounds_toArray, List.set_cons_zero, List.set_cons_succ]
            refine alone 11 rfl (by kernel_rfl) (by rfl) ?_
            intro K hK
            go_simp
            refine (HWI.out X6.drew k0 k1 (T0.below HX6.out.2.2.1 (Below.drew (Below.refl _ _))) (T0.below HX6.out.2.2.2 (Below.drew (Below.refl _ _)))).mono ?_
            rintro e X7 ⟨r, rfl, hr7, hb7⟩
            have hb : Below X6.heap.size X6 X7 := (Below.drew (Below.refl _ _)).trans hb7
            have HX7 := Lib.hid (show PuW w PG.toArray X7 ∧ Whole X7 O 81 #[ptrV k0, ptrV k1] ∧ T0 X7 false ta k0 ∧ T0 X7 true tb k1 ∧ T0 X7 true ((pickT true ta tb).ins (bs g z.toNat) o) (some r) from ⟨HX6.out.1.below hb, HX6.out.2.1.below hb HX6.out.2.1.lt, T0.below HX6.out.2.2.1 hb, T0.below HX6.out.2.2.2 hb, hr7⟩)
            have hS2 : Whole X7 w.heap.size 29 PG.toArray := HX7.out.1.p
            go_simp
            refine hK.out _ _ hS2 ?_
            clear hK K hS hb hb7 hr7 HX6 HCELL
            try simp only [Act.put, List.setIfInBounds_toArray, List.set_cons_zero, List.set_cons_succ]
            have hS := hS2
            refine take 14 _ rfl (by kernel_rfl) (by kernel_rfl) (by kernel_rfl) (fun _ _ _ h => h) (by rfl) hS (by intro w _; go_simp; with_reducible rfl) ?_
            try simp only [Act.put, List.setIfInBounds_toArray, List.set_cons_zero, List.set_cons_succ]
            clear hS hS2
            refine alone 15 rfl (by kernel_rfl) (by rfl) ?_
            intro K hK
            refine wp_store_ptr 78 (.tmp 49) (.tmp 46) rfl O 1 (some r) (ptrV k1) rfl rfl rfl (by rw [HX7.out.2.1.cell]; rfl) (HX7.out.2.1.free _) ?_
            refine hK.out _ _ (show Whole (X7.setCell ⟨O, 1, none⟩ (ptrV (some r))) w.heap.size 29 PG.toArray from HX7.out.1.p.far (p := ⟨O, 1, none⟩) (by have := HM.out; show w.heap.size ≠ O; omega) _) ?_
            clear hK K
            try simp only [Act.put]
            refine region_end (by kernel_rfl) ?_
            have HEND := Lib.hid (isTrie_turn (s := true) HX7.out.2.1 HX7.out.2.2.1 HX7.out.2.2.2.1 HX7.out.2.2.2.2)
            have HBE := Lib.hid (HX7.out.1.bel.setCell (p := ⟨O, 1, none⟩) (by have := HM.out; show w.heap.size ≤ O; omega) (ptrV (some r)))
            clear HX7
            go_wp2_with fail
            go_ret2
            exact ⟨some O, rfl, HBE.out, O, rfl, HEND.out⟩
          | false =>
            rw [show (if false = true then (1 : Int) else 0) = 0 from rfl]
            have hc0 : X6.drew.cell? ⟨O, 0, none⟩ = some (ptrV k0) := by rw [(HX6.out.2.1.drew).cell]; rfl
            have HCELL := Lib.hid hc0
            clear hc0
            refine region_drew (fun V => Whole V w.heap.size 29 PG.toArray) (by kernel_rfl) HX6.out.1.p.drew (fun hS => ?_)
            refine take 0 _ rfl (by kernel_rfl) (by kernel_rfl) (by kernel_rfl) (fun _ _ _ h => h) (by rfl) hS (by intro w _; go_simp; with_reducible rfl) ?_
            try simp only [Act.put, List.setIfInBounds_toArray, List.set_cons_zero, List.set_cons_succ]
            refine take 1 _ rfl (by kernel_rfl) (by kernel_rfl) (by kernel_rfl) (fun _ _ _ h => h) (by rfl) hS (by intro w _; go_simp; with_reducible rfl) ?_
            try simp only [Act.put, List.setIfInBounds_toArray, List.set_cons_zero, List.set_cons_succ]
            refine take 2 _ rfl (by kernel_rfl) (by kernel_rfl) (by kernel_rfl) (fun _ _ _ h => h) (by rfl) hS (by intro w _; go_simp; with_reducible rfl) ?_
            try simp only [Act.put, List.setIfInBounds_toArray, List.set_cons_zero, List.set_cons_succ]
            refine take 3 _ rfl (by kernel_rfl) (by kernel_rfl) (by kernel_rfl) (fun _ _ _ h => h) (by rfl) hS (by intro w _; go_simp; with_reducible rfl) ?_
            try simp only [Act.put, List.setIfInBounds_toArray, List.set_cons_zero, List.set_cons_succ]
            refine take 4 _ rfl (by kernel_rfl) (by kernel_rfl) (by kernel_rfl) (fun _ _ _ h => h) (by rfl) hS (by intro w _; go_simp; with_reducible rfl) ?_
            try simp only [Act.put, List.setIfInBounds_toArray, List.set_cons_zero, List.set_cons_succ]
            refine take 5 _ rfl (by kernel_rfl) (by kernel_rfl) (by kernel_rfl) (fun _ _ _ h => h) (by rfl) hS (by intro w _; go_simp; with_reducible rfl) ?_
            try simp only [Act.put, List.setIfInBounds_toArray, List.set_cons_zero, List.set_cons_succ]
            refine take 6 _ rfl (by kernel_rfl) (by kernel_rfl) (by kernel_rfl) (fun _ _ _ h => h) (by rfl) hS (by intro w _; go_simp; with_reducible rfl) ?_
            try simp only [Act.put, List.setIfInBounds_toArray, List.set_cons_zero, List.set_cons_succ]
            refine take 8 (.agg PG.toArray) rfl (by kernel_rfl) (by kernel_rfl) (by kernel_rfl) (fun _ _ _ h => h) (by rfl) hS (fun w0 hw => run_load_in 29 (.tmp 4) rfl w.heap.size rfl PG.toArray 18 (by rw [List.size_toArray, HPL.out]) hw rfl rfl (by kernel_rfl)) ?_
            try simp only [Act.put, List.setIfInBounds_toArray, List.set_cons_zero, List.set_cons_succ]
            refine take 9 _ rfl (by kernel_rfl) (by kernel_rfl) (by kernel_rfl) (fun _ _ _ h => h) (by rfl) hS (by intro w _; go_simp; with_reducible rfl) ?_
            try simp only [Act.put, List.setIfInBounds_toArray, List.set_cons_zero, List.set_cons_succ]
            refine take 10 (.agg RL) rfl (by kernel_rfl) (by kernel_rfl) (by kernel_rfl) (fun _ _ _ h => h) (by rfl) hS (fun w0 hw => run_built2 38 0 1 (.tmp 43) (.tmp 44) rfl (.agg PG.toArray) (.int .i64 o) rfl rfl RL HRB.out) ?_
            try simp only [Act.put, List.setIfInBounds_toArray, List.set_cons_zero, List.set_cons_succ]
            refine take 12 _ rfl (by kernel_rfl) (by kernel_rfl) (by kernel_rfl) (fun _ _ _ h => h) (by rfl) hS (by intro w _; go_simp; with_reducible rfl) ?_
            try simp only [Act.put, List.setIfInBounds_toArray, List.set_cons_zero, List.set_cons_succ]
            refine take 13 _ rfl (by kernel_rfl) (by kernel_rfl) (by kernel_rfl) (fun _ _ _ h => h) (by rfl) hS (by intro w _; go_simp; with_reducible rfl) ?_
            try simp only [Act.put, List.setIfInBounds_toArray, List.set_cons_zero, List.set_cons_succ]
            refine alone_run 7 (ptrV k0) rfl (by kernel_rfl) (by rfl) hS (by have hc := HCELL.out; go_simp; try with_reducible rfl) ?_
            try simp only [Act.put, List.setIfInBounds_toArray, List.set_cons_zero, List.set_cons_succ]
            refine alone 11 rfl (by kernel_rfl) (by rfl) ?_
            intro K hK
            go_simp
            refine (HWI.out X6.drew k0 k1 (T0.below HX6.out.2.2.1 (Below.drew (Below.refl _ _))) (T0.below HX6.out.2.2.2 (Below.drew (Below.refl _ _)))).mono ?_
            rintro e X7 ⟨r, rfl, hr7, hb7⟩
            have hb : Below X6.heap.size X6 X7 := (Below.drew (Below.refl _ _)).trans hb7
            have HX7 := Lib.hid (show PuW w PG.toArray X7 ∧ Whole X7 O 81 #[ptrV k0, ptrV k1] ∧ T0 X7 false ta k0 ∧ T0 X7 true tb k1 ∧ T0 X7 false ((pickT false ta tb).ins (bs g z.toNat) o) (some r) from ⟨HX6.out.1.below hb, HX6.out.2.1.below hb HX6.out.2.1.lt, T0.below HX6.out.2.2.1 hb, T0.below HX6.out.2.2.2 hb, hr7⟩)
            have hS2 : Whole X7 w.heap.size 29 PG.toArray := HX7.out.1.p
            go_simp
            refine hK.out _ _ hS2 ?_
            clear hK K hS hb hb7 hr7 HX6 HCELL
            try simp only [Act.put, List.setIfInBounds_toArray, List.set_cons_zero, List.set_cons_succ]
            have hS := hS2
            refine take 14 _ rfl (by kernel_rfl) (by kernel_rfl) (by kernel_rfl) (fun _ _ _ h => h) (by rfl) hS (by intro w _; go_simp; with_reducible rfl) ?_
            try simp only [Act.put, List.setIfInBounds_toArray, List.set_cons_zero, List.set_cons_succ]
            clear hS hS2
            refine alone 15 rfl (by kernel_rfl) (by rfl) ?_
            intro K hK
            refine wp_store_ptr 78 (.tmp 49) (.tmp 46) rfl O 0 (some r) (ptrV k0) rfl rfl rfl (by rw [HX7.out.2.1.cell]; rfl) (HX7.out.2.1.free _) ?_
            refine hK.out _ _ (show Whole (X7.setCell ⟨O, 0, none⟩ (ptrV (some r))) w.heap.size 29 PG.toArray from HX7.out.1.p.far (p := ⟨O, 0, none⟩) (by have := HM.out; show w.heap.size ≠ O; omega) _) ?_
            clear hK K
            try simp only [Act.put]
            refine region_end (by kernel_rfl) ?_
            have HEND := Lib.hid (isTrie_turn (s := false) HX7.out.2.1 HX7.out.2.2.1 HX7.out.2.2.2.1 HX7.out.2.2.2.2)
            have HBE := Lib.hid (HX7.out.1.bel.setCell (p := ⟨O, 0, none⟩) (by have := HM.out; show w.heap.size ≤ O; omega) (ptrV (some r)))
            clear HX7
            go_wp2_with fail
            go_ret2
            exact ⟨some O, rfl, HBE.out, O, rfl, HEND.out⟩
end Tri
end Go.Proofs.Ytcpfchfhcfdcpaa
