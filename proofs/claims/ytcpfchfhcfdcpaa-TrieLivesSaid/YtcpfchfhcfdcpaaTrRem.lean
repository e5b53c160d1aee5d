/- Package trie: copied, remove. -/
import Derived.Test.YtcpfchfhcfdcpaaTrMod
namespace Go.Proofs.Ytcpfchfhcfdcpaa
namespace Tri
open Go.ChangeShapes Go.WideShapes Go.ChangeAt Go.RowKit
open Num Mem Words Chacha Aead Poly Quiet Ops Adr

abbrev T0 (w : World) (s : Bool) (t : Tr) (q : Option Nat) : Prop := IsT (fun _ => True) w s t q
theorem T0.below {w w' : World} {s : Bool} {t : Tr} {q : Option Nat} (h : T0 w s t q) (hb : Below w.heap.size w w') : T0 w' s t q := IsT.below hb h
theorem T0.setTrie {w : World} {s : Bool} {t : Tr} {q : Option Nat} (h : T0 w s t q) {O : Nat} {cs : Array Value} (hO : Whole w O 81 cs) (i : Nat) (v : Value) : T0 (w.setCell ⟨O, i, none⟩ v) s t q :=
  h.keep fun j ds _ hw => ⟨trivial, (Below.heap_setCell w ⟨O, i, none⟩ v j (fun e => by
    have e : j = O := e
    subst e
    have h1 : w.heap[j]? = some (.cells ds 87 (0, 0)) := hw
    have h2 : w.heap[j]? = some (.cells cs 81 (0, 0)) := hO
    rw [h1] at h2
    cases h2)).trans hw⟩
theorem trie_built0 : Try.prog.built 81 [] = some #[ptrV none, ptrV none] := by kernel_rfl
theorem trie_built1 (k0 k1 : Option Nat) : Try.prog.built 81 [(0, .agg #[ptrV k0, ptrV k1])] = some #[ptrV k0, ptrV k1] := by kernel_rfl
set_option maxRecDepth 100000 in
theorem copied_any {A : Nat → Prop} {w : World} {ta tb : Tr} {q : Option Nat} (h : IsTrie A w ta tb q) : Calls Try.prog 35 #[ptrV q] w fun e w' => ∃ k0 k1, e = .returned (.pointer (some ⟨w.heap.size, 0, none⟩)) ∧ w' = w.alloc (.cells #[ptrV k0, ptrV k1] 81) ∧ T0 w false ta k0 ∧ T0 w true tb k1 := by
  cases q with
  | none =>
    obtain ⟨rfl, rfl⟩ := h
    show Calls _ _ #[.pointer none] _ _
    go_enter Try.func35, Try.ntmps35
    go_wp2_with (refine wpList_built0 rfl 81 rfl #[ptrV none, ptrV none] trie_built0 ?_)
    go_ret
    exact ⟨none, none, rfl, rfl, rfl, rfl⟩
  | some b =>
    obtain ⟨k0, k1, _, hw, hta, htb⟩ := h
    have HA := Lib.hid (show T0 w false ta k0 ∧ T0 w true tb k1 from ⟨hta.keep fun _ _ _ h => ⟨trivial, h⟩, htb.keep fun _ _ _ h => ⟨trivial, h⟩⟩)
    have HR := Lib.hid (show w.rangeAt b 0 [ptrV k0, ptrV k1] from fun j v hj => by rw [Nat.zero_add, hw.cell, List.getElem?_toArray]; exact hj)
    have HB := Lib.hid (trie_built1 k0 k1)
    clear hw hta htb
    show Calls _ _ #[.pointer (some ⟨b, 0, none⟩)] _ _
    go_enter Try.func35, Try.ntmps35
    go_wp2_with (first
      | (refine wpList_load_mid rfl 79 (.tmp 9) rfl b 0 rfl [ptrV k0, ptrV k1] _ HR.out rfl rfl (by kernel_rfl) ?_)
      | (refine wpList_built1 rfl 81 0 (.tmp 10) rfl (.agg #[ptrV k0, ptrV k1]) rfl #[ptrV k0, ptrV k1] HB.out ?_))
    go_ret
    exact ⟨k0, k1, rfl, rfl, HA.out⟩
set_option maxRecDepth 100000 in
set_option maxHeartbeats 8000000 in
theorem remove_any {w : World} {O : Nat} {ta tb : Tr} {k0 k1 : Option Nat} (hO : Whole w O 81 #[ptrV k0, ptrV k1]) (hta : T0 w false ta k0) (htb : T0 w true tb k1) (oka : ta.Ok) (okb : tb.Ok) (s : Bool) (g : Nat → Nat) (n : Nat) (hg : ∀ i, g i < 256) (hr : rightPB s g (n : Int) = true) (hm : ∃ o, (bs g n, o) ∈ (pickT s ta tb).toL) :
    Calls Try.prog 38 #[.pointer (some ⟨O, 0, none⟩), .agg (prefL s g n).toArray] w fun e w' => e = .returned (.tuple #[]) ∧ ∃ X k, Below w.heap.size w X ∧ w' = X.setCell ⟨O, if s then 1 else 0, none⟩ (ptrV k) ∧ T0 X s ((pickT s ta tb).del (bs g n)) k := by
  have HO := Lib.hid hO
  have HPL := Lib.hid (prefL_length s g (n : Int))
  have HAL := Lib.hid (addrL_length s g)
  have HROOT := Lib.hid (fun X => rootOf_any s g X)
  have HOUT := Lib.hid (show ∀ V, Below w.heap.size w V → Calls Try.prog 52 #[ptrV (if s then k1 else k0), .agg (prefL s g n).toArray] V fun e Y => ∃ k, e = .returned (ptrV k) ∧ T0 Y s ((pickT s ta tb).del (bs g n)) k ∧ Below V.heap.size V Y from fun V hV => by
    have h0 : T0 w s (pickT s ta tb) (if s then k1 else k0) := by cases s <;> assumption
    exact (without_any s g n hg hr (pickT s ta tb) (ok_pick oka okb) hm (fun _ => True) V _ (T0.below h0 hV)).mono fun e Y ⟨k, h1, h2, h3⟩ => ⟨k, h1, h2.keep fun _ _ _ h => ⟨trivial, h⟩, h3⟩)
  have HPR := Lib.hid (show ∀ X, Whole X w.heap.size 29 (prefL s g n).toArray → X.rangeAt w.heap.size 0 (addrL s g) from fun X h => pref_range h)
  obtain ⟨AL, hAL⟩ : ∃ AL, addrL s g = AL := ⟨_, rfl⟩
  obtain ⟨PG, hPG⟩ : ∃ PG, prefL s g (n : Int) = PG := ⟨_, rfl⟩
  rw [hAL] at HAL HROOT HPR
  rw [hPG] at HPL HOUT HPR ⊢
  clear hO hta htb hAL hPG
  obtain ⟨N, hNN⟩ : ∃ N, w.heap.size = N := ⟨_, rfl⟩
  have HNN := Lib.hid hNN
  go_enter Try.func38, Try.ntmps38
  go_upto_region 1 with fail
  refine cut_world (fun X => Below N w X ∧ Whole X N 29 PG.toArray) ⟨hNN ▸ below_alloc (Below.refl _ _) _, whole_new _ _ hNN⟩ ?_
  rintro W hW
  have HW := Lib.hid hW
  rw [hNN] at HPR HOUT
  clear hW hNN
  go_upto_region 2 with (first
    | (refine wpList_load_mid rfl 27 (.tmp 5) rfl N 0 rfl AL _ (HPR.out _ HW.out.2) rfl rfl (by rw [HAL.out]; kernel_rfl) ?_)
    | (go_at_call 36; refine (HROOT.out _).mono ?_; rintro e X ⟨rfl, hbx⟩; have HX := Lib.hid (show Below N w X ∧ Whole X N 29 PG.toArray from ⟨HW.out.1.trans (hbx.mono (by have := HW.out.2.lt; omega)), HW.out.2.below hbx HW.out.2.lt⟩); clear hbx HW HROOT))
  cases s with
  | true =>
    rw [show (if true = true then (1 : Int) else 0) = 1 from rfl]
    have HCELL := Lib.hid (show X.drew.cell? ⟨O, 1, none⟩ = some (ptrV k1) from by
      have := HO.out.below (HNN.out ▸ HX.out.1) HO.out.lt
      rw [(this.drew).cell]; rfl)
    have HBX := Lib.hid (show Below N w X.drew from HX.out.1.drew)
    refine region_drew (fun V => Whole V N 29 PG.toArray) (by kernel_rfl) HX.out.2.drew (fun hS => ?_)
    refine take 0 _ rfl (by kernel_rfl) (by kernel_rfl) (by kernel_rfl) (fun _ _ _ h => h) (by rfl) hS (by intro w _; go_simp; with_reducible rfl) ?_
    try simp only [Act.put, List.setIfInBounds_toArray, List.set_cons_zero, List.set_cons_succ]
    refine take 1 _ rfl (by kernel_rfl) (by kernel_rfl) (by kernel_rfl) (fun _ _ _ h => h) (by rfl) hS (by intro w _; go_simp; with_reducible rfl) ?_
    try simp only [Act.put, List.setIfInBounds_toArray, List.set_cons_zero, List.set_cons_succ]
    refine take 2 _ rfl (by kernel_rfl) (by kernel_rfl) (by kernel_rfl) (fun _ _ _ h => h) (by rfl) hS (by intro w _; go_simp; with_reducible rfl) ?_
    try simp only [Act.put, List.setIfInBounds_toArray, List.set_cons_zero, List.set_cons_succ]
    refine take 3 _ rfl (by kernel_rfl) (by kernel_rfl) (by kernel_rfl) (fun _ _ _ h => h) (by rfl) hS (by intro w _; go_simp; with_reducible rfl) ?_
    try simp only [Act.put, List.setIfInBounds_toArray, List.set_cons_zero, List.set_cons_succ]
    refine take 4 _ rfl (by kernel_rfl) (by kernel_rfl) (by kernel_rfl) (fun _ _ _ h => h) (by rfl) hS (by intro w _; go_simp; with_reducible rfl) ?_
    try simp only [Act.put, List.setIfInBounds_toArray, List.set_cons_zero, List.set_cons_succ]
    refine take 5 _ rfl (by kernel_rfl) (by kernel_rfl) (by kernel_rfl) (fun _ _ _ h => h) (by rfl) hS (by intro w _; go_simp; with_reducible rfl) ?_
    try simp only [Act.put, List.setIfInBounds_toArray, List.set_cons_zero, List.set_cons_succ]
    refine take 6 _ rfl (by kernel_rfl) (by kernel_rfl) (by kernel_rfl) (fun _ _ _ h => h) (by rfl) hS (by intro w _; go_simp; with_reducible rfl) ?_
    try simp only [Act.put, List.setIfInBounds_toArray, List.set_cons_zero, List.set_cons_succ]
    refine take 8 (.agg PG.toArray) rfl (by kernel_rfl) (by kernel_rfl) (by kernel_rfl) (fun _ _ _ h => h) (by rfl) hS (fun w hw => run_load_in 29 (.tmp 3) rfl N rfl PG.toArray 18 (by rw [List.size_toArray, HPL.out]) hw rfl rfl (by kernel_rfl)) ?_
    try simp only [Act.put, List.setIfInBounds_toArray, List.set_cons_zero, List.set_cons_succ]
    refine take 10 _ rfl (by kernel_rfl) (by kernel_rfl) (by kernel_rfl) (fun _ _ _ h => h) (by rfl) hS (by intro w _; go_simp; with_reducible rfl) ?_
    try simp only [Act.put, List.setIfInBounds_toArray, List.set_cons_zero, List.set_cons_succ]
    refine take 11 _ rfl (by kernel_rfl) (by kernel_rfl) (by kernel_rfl) (fun _ _ _ h => h) (by rfl) hS (by intro w _; go_simp; with_reducible rfl) ?_
    try simp only [Act.put, List.setIfInBounds_toArray, List.set_cons_zero, List.set_cons_succ]
    refine alone_run 7 (ptrV k1) rfl (by kernel_rfl) (by rfl) hS (by have hc := HCELL.out; go_simp; try with_reducible rfl) ?_
    try simp only [Act.put, List.setIfInBounds_toArray, List.set_cons_zero, List.set_cons_succ]
    refine alone 9 rfl (by kernel_rfl) (by rfl) ?_
    intro K hK
    go_simp
    refine (HOUT.out _ HBX.out).mono ?_
    rintro e X2 ⟨k, rfl, hk2, hb2⟩
    have hS2 : Whole X2 N 29 PG.toArray := hS.below hb2 hS.lt
    have HB2 := Lib.hid (show Below N w X2 from HBX.out.trans (hb2.mono (by have := hS.lt; omega)))
    have HO2 := Lib.hid (show Whole X2 O 81 #[ptrV k0, ptrV k1] from HO.out.below (HNN.out ▸ HB2.out) HO.out.lt)
    have HK2 := Lib.hid hk2
    go_simp
    refine hK.out _ _ hS2 ?_
    clear hK K hS hk2 hb2 HX
    try simp only [Act.put, List.setIfInBounds_toArray, List.set_cons_zero, List.set_cons_succ]
    have HS2 := Lib.hid hS2
    have hS := hS2
    refine take 12 _ rfl (by kernel_rfl) (by kernel_rfl) (by kernel_rfl) (fun _ _ _ h => h) (by rfl) hS (by intro w _; go_simp; with_reducible rfl) ?_
    try simp only [Act.put, List.setIfInBounds_toArray, List.set_cons_zero, List.set_cons_succ]
    clear hS hS2
    refine alone 13 rfl (by kernel_rfl) (by rfl) ?_
    intro K hK
    refine wp_store_ptr 78 (.tmp 20) (.tmp 17) rfl O 1 k (ptrV k1) rfl rfl rfl (by rw [HO2.out.cell]; rfl) (HO2.out.free _) ?_
    refine hK.out _ _ (show Whole (X2.setCell ⟨O, 1, none⟩ (ptrV k)) N 29 PG.toArray from HS2.out.far (p := ⟨O, 1, none⟩) (by have := HO.out.lt; have := HNN.out; show N ≠ O; omega) _) ?_
    clear hK K
    try simp only [Act.put]
    refine region_end (by kernel_rfl) ?_
    go_wp2_with fail
    go_end0
    exact ⟨rfl, X2, HNN.out ▸ HB2.out, k, rfl, HK2.out⟩
  | false =>
    rw [show (if false = true then (1 : Int) else 0) = 0 from rfl]
    have HCELL := Lib.hid (show X.drew.cell? ⟨O, 0, none⟩ = some (ptrV k0) from by
      have := HO.out.below (HNN.out ▸ HX.out.1) HO.out.lt
      rw [(this.drew).cell]; rfl)
    have HBX := Lib.hid (show Below N w X.drew from HX.out.1.drew)
    refine region_drew (fun V => Whole V N 29 PG.toArray) (by kernel_rfl) HX.out.2.drew (fun hS => ?_)
    refine take 0 _ rfl (by kernel_rfl) (by kernel_rfl) (by kernel_rfl) (fun _ _ _ h => h) (by rfl) hS (by intro w _; go_simp; with_reducible rfl) ?_
    try simp only [Act.put, List.setIfInBounds_toArray, List.set_cons_zero, List.set_cons_succ]
    refine take 1 _ rfl (by kernel_rfl) (by kernel_rfl) (by kernel_rfl) (fun _ _ _ h => h) (by rfl) hS (by intro w _; go_simp; with_reducible rfl) ?_
    try simp only [Act.put, List.setIfInBounds_toArray, List.set_cons_zero, List.set_cons_succ]
    refine take 2 _ rfl (by kernel_rfl) (by kernel_rfl) (by kernel_rfl) (fun _ _ _ h => h) (by rfl) hS (by intro w _; go_simp; with_reducible rfl) ?_
    try simp only [Act.put, List.setIfInBounds_toArray, List.set_cons_zero, List.set_cons_succ]
    refine take 3 _ rfl (by kernel_rfl) (by kernel_rfl) (by kernel_rfl) (fun _ _ _ h => h) (by rfl) hS (by intro w _; go_simp; with_reducible rfl) ?_
    try simp only [Act.put, List.setIfInBounds_toArray, List.set_cons_zero, List.set_cons_succ]
    refine take 4 _ rfl (by kernel_rfl) (by kernel_rfl) (by kernel_rfl) (fun _ _ _ h => h) (by rfl) hS (by intro w _; go_simp; with_reducible rfl) ?_
    try simp only [Act.put, List.setIfInBounds_toArray, List.set_cons_zero, List.set_cons_succ]
    refine take 5 _ rfl (by kernel_rfl) (by kernel_rfl) (by kernel_rfl) (fun _ _ _ h => h) (by rfl) hS (by intro w _; go_simp; with_reducible rfl) ?_
    try simp only [Act.put, List.setIfInBounds_toArray, List.set_cons_zero, List.set_cons_succ]
    refine take 6 _ rfl (by kernel_rfl) (by kernel_rfl) (by kernel_rfl) (fun _ _ _ h => h) (by rfl) hS (by intro w _; go_simp; with_reducible rfl) ?_
    try simp only [Act.put, List.setIfInBounds_toArray, List.set_cons_zero, List.set_cons_succ]
    refine take 8 (.agg PG.toArray) rfl (by kernel_rfl) (by kernel_rfl) (by kernel_rfl) (fun _ _ _ h => h) (by rfl) hS (fun w hw => run_load_in 29 (.tmp 3) rfl N rfl PG.toArray 18 (by rw [List.size_toArray, HPL.out]) hw rfl rfl (by kernel_rfl)) ?_
    try simp only [Act.put, List.setIfInBounds_toArray, List.set_cons_zero, List.set_cons_succ]
    refine take 10 _ rfl (by kernel_rfl) (by kernel_rfl) (by kernel_rfl) (fun _ _ _ h => h) (by rfl) hS (by intro w _; go_simp; with_reducible rfl) ?_
    try simp only [Act.put, List.setIfInBounds_toArray, List.set_cons_zero, List.set_cons_succ]
    refine take 11 _ rfl (by kernel_rfl) (by kernel_rfl) (by kernel_rfl) (fun _ _ _ h => h) (by rfl) hS (by intro w _; go_simp; with_reducible rfl) ?_
    try simp only [Act.put, List.setIfInBounds_toArray, List.set_cons_zero, List.set_cons_succ]
    refine alone_run 7 (ptrV k0) rfl (by kernel_rfl) (by rfl) hS (by have hc := HCELL.out; go_simp; try with_reducible rfl) ?_
    try simp only [Act.put, List.setIfInBounds_toArray, List.set_cons_zero, List.set_cons_succ]
    refine alone 9 rfl (by kernel_rfl) (by rfl) ?_
    intro K hK
    go_simp
    refine (HOUT.out _ HBX.out).mono ?_
    rintro e X2 ⟨k, rfl, hk2, hb2⟩
    have hS2 : Whole X2 N 29 PG.toArray := hS.below hb2 hS.lt
    have HB2 := Lib.hid (show Below N w X2 from HBX.out.trans (hb2.mono (by have := hS.lt; omega)))
    have HO2 := Lib.hid (show Whole X2 O 81 #[ptrV k0, ptrV k1] from HO.out.below (HNN.out ▸ HB2.out) HO.out.lt)
    have HK2 := Lib.hid hk2
    go_simp
    refine hK.out _ _ hS2 ?_
    clear hK K hS hk2 hb2 HX
    try simp only [Act.put, List.setIfInBounds_toArray, List.set_cons_zero, List.set_cons_succ]
    have HS2 := Lib.hid hS2
    have hS := hS2
    refine take 12 _ rfl (by kernel_rfl) (by kernel_rfl) (by kernel_rfl) (fun _ _ _ h => h) (by rfl) hS (by intro w _; go_simp; with_reducible rfl) ?_
    try simp only [Act.put, List.setIfInBounds_toArray, List.set_cons_zero, List.set_cons_succ]
    clear hS hS2
    refine alone 13 rfl (by kernel_rfl) (by rfl) ?_
    intro K hK
    refine wp_store_ptr 78 (.tmp 20) (.tmp 17) rfl O 0 k (ptrV k0) rfl rfl rfl (by rw [HO2.out.cell]; rfl) (HO2.out.free _) ?_
    refine hK.out _ _ (show Whole (X2.setCell ⟨O, 0, none⟩ (ptrV k)) N 29 PG.toArray from HS2.out.far (p := ⟨O, 0, none⟩) (by have := HO.out.lt; have := HNN.out; show N ≠ O; omega) _) ?_
    clear hK K
    try simp only [Act.put]
    refine region_end (by kernel_rfl) ?_
    go_wp2_with fail
    go_end0
    exact ⟨rfl, X2, HNN.out ▸ HB2.out, k, rfl, HK2.out⟩
end Tri
end Go.Proofs.Ytcpfchfhcfdcpaa
