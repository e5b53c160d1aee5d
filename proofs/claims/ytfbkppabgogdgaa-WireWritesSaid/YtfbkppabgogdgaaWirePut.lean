/- put of package wire: a message of a kind, its fields one behind the other. -/
import Derived.Test.YtfbkppabgogdgaaWireNum
import Derived.Test.YtfbkppabgogdgaaPieces2
namespace Go.Proofs.Ytfbkppabgogdgaa
namespace Wire
open Go.ChangeShapes Go.WideShapes Go.ChangeAt Go.RowKit
open Num Mem Words Ref Cuts Chacha Quiet

/-- a message's bytes: its kind's four, and the text behind it -/
def msgF (k : Nat) (T : Nat → Nat) (i : Nat) : Nat := if i < 4 then byteAt k i else T (i - 4)
theorem msg_lt {k : Nat} {T : Nat → Nat} (hT : ∀ i, T i < 256) (i : Nat) : msgF k T i < 256 := by
  unfold msgF
  split
  · exact byteAt_lt _ _
  · exact hT _

set_option maxRecDepth 100000 in
set_option maxHeartbeats 4000000 in
theorem put_any (k : Nat) (hk : k < 4294967296) (pb po cp : Nat) (l : List Part) (hN : lenAll l ≤ 1000000) (hl : l.length ≤ 1000) (hnil : ∀ (j : Nat) (p : Part), l[j]? = some p → p.A = none → p.m = 0 ∧ p.c = 0) (w : World) (hP : PartsAt w pb po l) :
    Calls Try.prog 55 #[.int .u32 k, .slice (some ⟨pb, po, none⟩) l.length cp] w fun e w' => ∃ A c, e = .returned (.slice A (4 + lenAll l) c) ∧ Own w' w.heap.size 5 A (4 + lenAll l) c (msgF k (textOf l)) ∧ Below w.heap.size w w' := by
  have HP := Lib.hid hP
  have HNI := Lib.hid hnil
  have HTA := Lib.hid (fun (j : Nat) (p : Part) (h : l[j]? = some p) => textOf_at h)
  have HLT := Lib.hid (fun (j : Nat) (p : Part) (h : l[j]? = some p) => lenAll_take h)
  have HLL := Lib.hid (lenAll_le l)
  have HTL := Lib.hid (List.take_length (l := l))
  have HN := Lib.hid hN
  have HPL := Lib.hid hP.lt
  have CP := Lib.hid (fun w => put32_any k hk w)
  obtain ⟨K4, hK4⟩ : ∃ K4, (byteCells (byteAt k) 4).toArray = K4 := ⟨_, rfl⟩
  have HK := Lib.hid hK4
  have HKS := Lib.hid (show K4.size = 4 by rw [← hK4, List.size_toArray, byteCells_length])
  have HK1 := Lib.hid (show K4.all (·.oneCell') = true by rw [← hK4]; exact bytes_one _ _)
  have HM4 := Lib.hid (show ∀ i, i < 4 → msgF k (textOf l) i = byteAt k i from fun i hi => by unfold msgF; rw [if_pos hi])
  have HMT := Lib.hid (show ∀ i, msgF k (textOf l) (4 + i) = textOf l i from fun i => by unfold msgF; rw [if_neg (by omega)]; congr 1; omega)
  rw [hK4] at CP
  generalize msgF k (textOf l) = M at HM4 HMT ⊢
  generalize textOf l = T at HTA HMT
  clear hP hN hnil hK4
  go_enter Try.func55, Try.ntmps55
  go_upto_region 2 with (first
    | (go_at_call 53; refine (CP.out _).mono ?_; rintro e w1 ⟨rfl, hb1⟩; have HB1 := Lib.hid hb1; clear hb1)
    | (refine wpList_store_row rfl 109 (.tmp 5) (.tmp 13) rfl w1.heap.size K4 rfl rfl 109 _ (Whole.new _ _ _) (by rw [HKS.out]; kernel_rfl) (by rw [HKS.out]; rfl) HK1.out ?_))
  refine cut_world (fun X => Whole X w1.heap.size 109 (byteCells (byteAt k) 4).toArray ∧ Below w.heap.size w X) ⟨?_, ?_⟩ ?_
  · rw [HK.out]
    exact setRow_heap _ _ _ _ _ _ (Whole.new _ _ _)
  · exact below_setRow (below_alloc' HB1.out HB1.out.size _) HB1.out.size _
  rintro W ⟨q1, qb⟩
  have Q1 := Lib.hid q1
  have QB := Lib.hid qb
  have hg1 : w.heap.size ≤ w1.heap.size := HB1.out.size
  have hg2 : w1.heap.size < W.heap.size := q1.lt
  clear q1 qb HB1
  generalize w1.heap.size = g at Q1 hg1 hg2 ⊢
  go_wp2_with fail
  go_loopw [6, 16] (fun z i wr => ∃ j : Nat, i = .int .i64 j ∧ j ≤ l.length ∧ z = .int .i64 (4 + lenAll (l.take j) : Nat) ∧ wr = W) (fun _ i _ => l.length - (intOf i).toNat)
  case atStart => exact ⟨0, rfl, by omega, by simp [lenAll], rfl⟩
  case round =>
    obtain ⟨j, rfl, hj, rfl, hw⟩ := hrel
    have hw' := hw.symm
    subst hw'
    clear hw
    have hlI : (l.length : Int) ≤ 1000 := by omega
    by_cases hlt : j < l.length
    · obtain ⟨p, hp⟩ : ∃ p, l[j]? = some p := ⟨l[j], List.getElem?_eq_getElem hlt⟩
      have jl : (j : Int) < (l.length : Int) := by omega
      have hc := (QB.out.cell (p := ⟨pb, po + j, none⟩) HPL.out).trans (HP.out.cell j p hp)
      have hcap := HP.out.cap j p hp
      have HNX := Lib.hid (HLT.out j p hp)
      have hle := HLL.out (j + 1)
      rw [HNX.out] at hle
      have hNN := HN.out
      obtain ⟨A, m, c, f⟩ := p
      have hc2 : World.cell? _ ⟨pb, po + j, none⟩ = some (.slice A m c) := hc
      clear hc hp
      generalize lenAll (l.take j) = N at HNX hle ⊢
      simp only at hle hcap
      go_wp2_with fail
      go_roundw
      case rel => exact ⟨j + 1, by go_num, by omega, by rw [HNX.out]; go_num, trivial⟩
      case measure => simp [intOf]; omega
    · obtain rfl : j = l.length := by omega
      rw [HTL.out]
      have hnl : ¬ ((l.length : Nat) : Int) < ((l.length : Nat) : Int) := by omega
      have hNN := HN.out
      generalize hLN : lenAll l = N at HN hNN ⊢
      have HLN := Lib.hid hLN
      clear hLN
      go_upto_region 8 with fail
      obtain ⟨Z, hZ⟩ : ∃ Z, 4 + N = Z := ⟨_, rfl⟩
      have MC := Lib.hid (fun w => made_cap Z (by omega) w)
      rw [hZ]
      refine region_start (fun X => Below W.heap.size W X) (by kernel_rfl) (below_drewN (Below.refl _ _) 1) ?_
      intro w2 hS
      refine take 0 _ rfl (by kernel_rfl) (by kernel_rfl) (by kernel_rfl) (fun _ _ _ h => h) (by rfl) hS (by intro w _; go_simp; with_reducible rfl) ?_
      try simp only [Act.put, List.setIfInBounds_toArray, List.set_cons_zero, List.set_cons_succ]
      refine take 2 _ rfl (by kernel_rfl) (by kernel_rfl) (by kernel_rfl) (fun _ _ _ h => h) (by rfl) hS (by intro w _; go_simp; with_reducible rfl) ?_
      try simp only [Act.put, List.setIfInBounds_toArray, List.set_cons_zero, List.set_cons_succ]
      refine alone 1 rfl (by kernel_rfl) (by rfl) ?_
      intro K hK
      go_simp
      rw [MC.out]
      go_simp
      refine hK.out _ _ (hS.alloc hS.size _) ?_
      clear hK K
      try simp only [Act.put, List.setIfInBounds_toArray, List.set_cons_zero, List.set_cons_succ]
      refine cut_any (fun X => Own X W.heap.size 5 (some ⟨w2.heap.size, 0, none⟩) 0 Z M ∧ Whole X g 109 (byteCells (byteAt k) 4).toArray ∧ Below W.heap.size W X ∧ W.heap.size ≤ X.heap.size) ⟨own_room hS.size (by omega) M, (Q1.out.below hS Q1.out.lt).alloc _, hS.alloc hS.size _, (hS.alloc hS.size _).size⟩ ?_
      rintro w3 ⟨o1, o2, o3, o4⟩
      generalize w2.heap.size = h at o1 ⊢
      clear hS
      have hS := o3
      refine alone 3 rfl (by kernel_rfl) (by rfl) ?_
      intro K hK
      refine wp_cat (.tmp 26) (.tmp 27) 36 5 (.int .u8 0) 1 Try.underlying36 info_u8 rfl rfl rfl o1 o3 o4 ⟨g, 0, none⟩ 4 4 rfl (byteCells (byteAt k) 4) (byteCells_length _ _) (row_reads o2) (bytes_each _ _) (by omega) (by omega) ?_
      intro A1 c1 w4 h1 h2 h3 _ _
      have p1 : Own w4 W.heap.size 5 A1 4 c1 M := by
        have e : byteCells M 0 ++ byteCells (byteAt k) 4 = byteCells M 4 := byteCells_congr (n := 4) (fun i hi => (HM4.out i hi).symm)
        rw [e] at h1
        exact h1
      refine hK.out _ _ h2 ?_
      clear hK K h1 o1 o2 o3 o4 hS
      try simp only [Act.put, List.setIfInBounds_toArray, List.set_cons_zero, List.set_cons_succ]
      have hS := h2
      refine alone 4 rfl (by kernel_rfl) (by rfl) ?_
      intro K hK
      go_simp
      refine hK.out _ _ hS ?_
      clear hK K
      try simp only [Act.put, List.setIfInBounds_toArray, List.set_cons_zero, List.set_cons_succ]
      refine region_end (by kernel_rfl) ?_
      have P1 := Lib.hid p1
      have S4 := Lib.hid h2
      have hsz4 := h3
      clear p1 h2 h3 hS
      have HZ := Lib.hid hZ
      clear hZ hnl hlt hj hNN
      go_wp2_with fail
      go_loopw [9, 31] (fun o i X => ∃ (j : Nat) (A : Option Addr) (c : Nat), i = .int .i64 j ∧ j ≤ l.length ∧ o = .slice A (4 + lenAll (l.take j)) c ∧ Own X W.heap.size 5 A (4 + lenAll (l.take j)) c M ∧ Below W.heap.size W X) (fun _ i _ => l.length - (intOf i).toNat)
      case atStart => exact ⟨0, A1, c1, rfl, by omega, by simp [lenAll], by simpa [lenAll] using P1.out, S4.out⟩
      case round =>
        obtain ⟨j, A, c, rfl, hj, rfl, ho, hb⟩ := hrel
        clear P1 S4 hsz4
        have HO := Lib.hid ho
        have HB := Lib.hid hb
        have hsz := hb.size
        clear ho hb
        by_cases hlt : j < l.length
        · obtain ⟨p, hp⟩ : ∃ p, l[j]? = some p := ⟨l[j], List.getElem?_eq_getElem hlt⟩
          have jl : (j : Int) < (l.length : Int) := by omega
          have hbw := QB.out.trans (HB.out.mono (Nat.le_of_lt (Nat.lt_of_le_of_lt hg1 hg2)))
          have hc := (hbw.cell (p := ⟨pb, po + j, none⟩) HPL.out).trans (HP.out.cell j p hp)
          have HSR := Lib.hid (src_rd ((HP.out.rd j p hp).below hbw (Nat.le_refl _)) (HNI.out j p hp))
          have HNX := Lib.hid (HLT.out j p hp)
          have HAT := Lib.hid (HTA.out j p hp)
          have hle := HLL.out (j + 1)
          rw [HNX.out] at hle
          have hNN := HN.out
          have hLN := HLN.out
          obtain ⟨A2, m, c2, f⟩ := p
          have hc2 : World.cell? _ ⟨pb, po + j, none⟩ = some (.slice A2 m c2) := hc
          clear hc hp hbw
          generalize lenAll (l.take j) = R at HNX hle HAT HO ⊢
          simp only at hle
          go_wp2_with (first
            | (at_builtin; refine wpList_catFrom (T := M) rfl (.tmp 35) (.tmp 36) 36 5 (.int .u8 0) 1 Try.underlying36 info_u8 rfl rfl rfl HO.out HB.out hsz m c2 A2 rfl HSR.out (by omega) (by omega) (fun i hi => ?_) ?_))
          · intro h0
            have h1 := HAT.out (i - (4 + R)) (by show i - (4 + R) < m; omega)
            have h2 := HMT.out (R + (i - (4 + R)))
            rw [show 4 + (R + (i - (4 + R))) = i by omega] at h2
            rw [h2, h1]
          · intro A3 c3 w5 h1 h2 h3 _ _
            rw [Nat.add_assoc] at h1 ⊢
            have HO5 := Lib.hid h1
            have HB5 := Lib.hid h2
            clear h1 h2 HO HB HSR HAT
            go_wp2_with fail
            go_roundw
            case rel => exact ⟨j + 1, A3, c3, by go_num, by omega, by rw [HNX.out], by rw [HNX.out]; exact HO5.out, HB5.out⟩
            case measure => simp [intOf]; omega
        · obtain rfl : j = l.length := by omega
          rw [HTL.out] at HO ⊢
          have hnl : ¬ ((l.length : Nat) : Int) < ((l.length : Nat) : Int) := by omega
          have hLN := HLN.out
          rw [hLN] at HO ⊢
          go_wp2_with fail
          go_ret
          exact ⟨A, c, rfl, HO.out.more (Nat.le_of_lt (Nat.lt_of_le_of_lt hg1 hg2)), QB.out.trans (HB.out.mono (Nat.le_of_lt (Nat.lt_of_le_of_lt hg1 hg2)))⟩

end Wire
end Go.Proofs.Ytfbkppabgogdgaa
