/- Package trie: next. -/
import Derived.Test.YtcpfchfhcfdcpaaTrMem
namespace Go.Proofs.Ytcpfchfhcfdcpaa
namespace Tri
open Go.ChangeShapes Go.WideShapes Go.ChangeAt Go.RowKit
open Num Mem Words Chacha Aead Poly Quiet Ops Adr

def nextK (s : Bool) (f : Nat → Nat) (z : Nat) (k0 k1 : Option Nat) : Option Nat := if digitsI s ≤ (z : Int) then none else if dig f z = true then k1 else k0
set_option maxRecDepth 100000 in
set_option maxHeartbeats 1000000 in
theorem next_any {w : World} {r : Nat} {s : Bool} {f : Nat → Nat} {z : Nat} {o : Int} {k0 k1 : Option Nat} (h : Nod w r s f z o k0 k1) (s' : Bool) (f' : Nat → Nat) (hf' : ∀ i, f' i < 256) (hr : rightB s' f' = true) :
    Calls Try.prog 43 #[.pointer (some ⟨r, 0, none⟩), .agg (addrL s' f').toArray] w fun e w' => e = .returned (ptrV (nextK s' f' z k0 k1)) ∧ Below w.heap.size w w' := by
  have HBIT := Lib.hid (fun w => bit_any s' f' hf' (z : Int) w)
  have HL := Lib.hid (addrL_length s' f')
  obtain ⟨L, hL⟩ : ∃ L, addrL s' f' = L := ⟨_, rfl⟩
  have H := Lib.hid h
  rw [hL] at HBIT HL ⊢
  clear h hL
  go_enter Try.func43, Try.ntmps43
  go_upto_region 1 with fail
  refine cut_world (fun X => Whole X w.heap.size 27 L.toArray ∧ Nod X r s f z o k0 k1 ∧ Below w.heap.size w X) ⟨Whole.new _ _ _, ⟨H.out.row.alloc _⟩, below_alloc (Below.refl _ _) _⟩ ?_
  rintro W ⟨p1, p2, pb⟩
  have P1 := Lib.hid p1
  have P2 := Lib.hid p2
  have PB := Lib.hid pb
  clear p1 p2 pb H
  obtain ⟨N, hNN⟩ : ∃ N, w.heap.size = N := ⟨_, rfl⟩
  have HNN := Lib.hid hNN
  rw [hNN] at P1 PB ⊢
  clear hNN
  refine region_drew (fun V => Whole V N 27 L.toArray ∧ Nod V r s f z o k0 k1 ∧ Below N w V) (by kernel_rfl) ⟨P1.out.below (Below.drew (Below.refl _ _)) P1.out.lt, ⟨P2.out.row.below (Below.drew (Below.refl _ _)) P2.out.row.lt⟩, PB.out.drew⟩ (fun hS => ?_)
  refine take 0 (.agg L.toArray) rfl (by kernel_rfl) (by kernel_rfl) (by kernel_rfl) (fun _ _ _ h => h) (by rfl) hS (fun w hw => run_load_in 27 (.tmp 3) rfl N rfl L.toArray 17 (by rw [List.size_toArray, HL.out]) hw.1 rfl rfl (by kernel_rfl)) ?_
  try simp only [Act.put, List.setIfInBounds_toArray, List.set_cons_zero, List.set_cons_succ]
  refine take 1 _ rfl (by kernel_rfl) (by kernel_rfl) (by kernel_rfl) (fun _ _ _ h => h) (by rfl) hS (by intro w _; go_simp; with_reducible rfl) ?_
  try simp only [Act.put, List.setIfInBounds_toArray, List.set_cons_zero, List.set_cons_succ]
  refine take 2 _ rfl (by kernel_rfl) (by kernel_rfl) (by kernel_rfl) (fun _ _ _ h => h) (by rfl) hS (by intro w _; go_simp; with_reducible rfl) ?_
  try simp only [Act.put, List.setIfInBounds_toArray, List.set_cons_zero, List.set_cons_succ]
  refine take 3 _ rfl (by kernel_rfl) (by kernel_rfl) (by kernel_rfl) (fun _ _ _ h => h) (by rfl) hS (by intro w _; go_simp; with_reducible rfl) ?_
  try simp only [Act.put, List.setIfInBounds_toArray, List.set_cons_zero, List.set_cons_succ]
  refine take 4 _ rfl (by kernel_rfl) (by kernel_rfl) (by kernel_rfl) (fun _ _ _ h => h) (by rfl) hS (by intro w _; go_simp; with_reducible rfl) ?_
  try simp only [Act.put, List.setIfInBounds_toArray, List.set_cons_zero, List.set_cons_succ]
  refine take 5 _ rfl (by kernel_rfl) (by kernel_rfl) (by kernel_rfl) (fun _ _ _ h => h) (by rfl) hS (by intro w _; go_simp; with_reducible rfl) ?_
  try simp only [Act.put, List.setIfInBounds_toArray, List.set_cons_zero, List.set_cons_succ]
  refine take 6 _ rfl (by kernel_rfl) (by kernel_rfl) (by kernel_rfl) (fun _ _ _ h => h) (by rfl) hS (by intro w hw; have hcl := hw.2.1.bits; go_simp; with_reducible rfl) ?_
  try simp only [Act.put, List.setIfInBounds_toArray, List.set_cons_zero, List.set_cons_succ]
  refine alone 7 rfl (by kernel_rfl) (by rfl) ?_
  intro K hK
  go_simp
  refine (HBIT.out _).mono ?_
  rintro e X ⟨rfl, hb⟩
  have hS2 : Whole X N 27 L.toArray ∧ Nod X r s f z o k0 k1 ∧ Below N w X := ⟨hS.1.below hb hS.1.lt, ⟨hS.2.1.row.below hb hS.2.1.row.lt⟩, hS.2.2.trans (hb.mono (Nat.le_of_lt hS.1.lt))⟩
  go_simp
  refine hK.out _ _ hS2 ?_
  clear hK K hS hb P1 P2 PB
  try simp only [Act.put, List.setIfInBounds_toArray, List.set_cons_zero, List.set_cons_succ]
  have hS := hS2
  refine take 8 _ rfl (by kernel_rfl) (by kernel_rfl) (by kernel_rfl) (fun _ _ _ h => h) (by rfl) hS (by intro w _; go_simp; with_reducible rfl) ?_
  try simp only [Act.put, List.setIfInBounds_toArray, List.set_cons_zero, List.set_cons_succ]
  refine region_end (by kernel_rfl) ?_
  have HS := Lib.hid hS
  clear hS hS2
  by_cases hfar : digitsI s' ≤ (z : Int)
  · have hv : bitI s' f' (z : Int) = -1 := bit_far z hfar
    have HV := Lib.hid (show nextK s' f' z k0 k1 = none from by unfold nextK; rw [if_pos hfar])
    rw [hv]
    go_wp2_with fail
    go_ret
    exact ⟨by rw [HV.out]; rfl, by rw [HNN.out]; exact HS.out.2.2⟩
  · have hv := bit_dig hr z (by omega)
    cases hd : dig f' z with
    | true =>
      have HV := Lib.hid (show nextK s' f' z k0 k1 = k1 from by unfold nextK; rw [if_neg hfar, hd, if_pos rfl])
      rw [hd, if_pos rfl] at hv
      have c1 := HS.out.2.1.kid1
      rw [hv]
      go_wp2_with fail
      go_ret
      exact ⟨by rw [HV.out]; rfl, by rw [HNN.out]; exact HS.out.2.2⟩
    | false =>
      have HV := Lib.hid (show nextK s' f' z k0 k1 = k0 from by unfold nextK; rw [if_neg hfar, hd]; rfl)
      rw [hd] at hv
      have hv : bitI s' f' (z : Int) = 0 := hv
      have c0 := HS.out.2.1.kid0
      rw [hv]
      go_wp2_with fail
      go_ret
      exact ⟨by rw [HV.out]; rfl, by rw [HNN.out]; exact HS.out.2.2⟩
end Tri
end Go.Proofs.Ytcpfchfhcfdcpaa
