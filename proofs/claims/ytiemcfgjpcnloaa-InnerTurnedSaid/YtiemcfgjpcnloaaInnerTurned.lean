/- 'aditlaw12.InnerTurned' returns true at every input and writes nothing that was there: the walk. -/
import Derived.Test.YtiemcfgjpcnloaaInnerWr
namespace Go.Proofs.Ytiemcfgjpcnloaa
namespace InnerTurned
open Go.ChangeShapes Go.WideShapes Go.ChangeAt Go.RowKit
open Num Mem Words Chacha Aead Poly Quiet Inner

set_option maxRecDepth 100000 in
set_option maxHeartbeats 4000000 in
theorem walk (s : Bool) (f : Nat → Nat) (t : Bool) (g : Nat → Nat) (A1 : Option Addr) (n c1 : Nat) (z1 : List Int) (p by_ : Int) (w : World) (hf : ∀ i, f i < 256) (hg : ∀ i, g i < 256) (r1 : IsRow .u8 w A1 n c1 z1) (hp : (Lit.int .i64 p).wf = true) (hb : (Lit.int .u8 by_).wf = true) :
    Calls Try.prog 6 #[.agg (addrL s f).toArray, .agg (addrL t g).toArray, .slice A1 n c1, .int .i64 p, .int .u8 by_] w fun e w' => e = .returned (.bool true) ∧ Below w.heap.size w w' := by
  obtain ⟨bd, hbd, hA1, hn1, hm1, hz1⟩ := row_rd r1
  obtain ⟨y, rfl, hy⟩ := nat_u8 hb
  have hp2 := int_i64 hp
  clear r1 hb hp
  have HF := Lib.hid hf
  have HG := Lib.hid hg
  have HBD := Lib.hid hbd
  have S1 := Lib.hid (fun X (hb : Below w.heap.size w X) => src_of (hA1.below hb (Nat.le_refl _)) hz1)
  clear hA1 hf hg hbd hz1
  obtain ⟨L, hL⟩ : ∃ L, addrL s f = L := ⟨_, rfl⟩
  obtain ⟨M, hM⟩ : ∃ M, addrL t g = M := ⟨_, rfl⟩
  have HLS := Lib.hid (show L.length = 17 from by rw [← hL, addrL_length])
  have HMS := Lib.hid (show M.length = 17 from by rw [← hM, addrL_length])
  have HL0 := Lib.hid (show L.toArray[0]? = some (.bool s) from by rw [← hL]; rfl)
  by_cases hn : 1000 < n ∨ s = true ∨ p < 1 ∨ 19 < p ∨ y = 0
  · rw [hL, hM]
    clear hL hM
    by_cases k1 : 1000 < n
    · go_enter Try.func6, Try.ntmps6
      go_upto_region 1 with fail
      refine cut_world (fun X => X.cell? ⟨w.heap.size, 0, none⟩ = some (.bool s) ∧ Below w.heap.size w X) ⟨?_, below_alloc (below_alloc (Below.refl _ _) _) _⟩ ?_
      · rw [((Whole.new _ _ _).alloc _).cell]
        exact HL0.out
      rintro W ⟨hc0, hb0⟩
      have HB0 := Lib.hid hb0
      clear hb0
      go_wp2_with fail
      refine (alive_any _).mono ?_
      rintro e w9 ⟨rfl, hb⟩
      have HBZ := Lib.hid (below_trans HB0.out hb)
      clear hb
      go_wp2_with fail
      go_ret
      exact ⟨rfl, HBZ.out⟩
    have k1' : n ≤ 1000 := by omega
    clear k1
    rcases s with _ | _
    · by_cases k2 : p < 1
      · go_enter Try.func6, Try.ntmps6
        go_upto_region 1 with fail
        refine cut_world (fun X => X.cell? ⟨w.heap.size, 0, none⟩ = some (.bool false) ∧ Below w.heap.size w X) ⟨?_, below_alloc (below_alloc (Below.refl _ _) _) _⟩ ?_
        · rw [((Whole.new _ _ _).alloc _).cell]
          exact HL0.out
        rintro W ⟨hc0, hb0⟩
        have HB0 := Lib.hid hb0
        clear hb0
        go_wp2_with fail
        refine (alive_any _).mono ?_
        rintro e w9 ⟨rfl, hb⟩
        have HBZ := Lib.hid (below_trans HB0.out hb)
        clear hb
        go_wp2_with fail
        go_ret
        exact ⟨rfl, HBZ.out⟩
      have k2' : 1 ≤ p := by omega
      by_cases k3 : 19 < p
      · go_enter Try.func6, Try.ntmps6
        go_upto_region 1 with fail
        refine cut_world (fun X => X.cell? ⟨w.heap.size, 0, none⟩ = some (.bool false) ∧ Below w.heap.size w X) ⟨?_, below_alloc (below_alloc (Below.refl _ _) _) _⟩ ?_
        · rw [((Whole.new _ _ _).alloc _).cell]
          exact HL0.out
        rintro W ⟨hc0, hb0⟩
        have HB0 := Lib.hid hb0
        clear hb0
        go_wp2_with fail
        refine (alive_any _).mono ?_
        rintro e w9 ⟨rfl, hb⟩
        have HBZ := Lib.hid (below_trans HB0.out hb)
        clear hb
        go_wp2_with fail
        go_ret
        exact ⟨rfl, HBZ.out⟩
      have k3' : p ≤ 19 := by omega
      obtain rfl : y = 0 := by
        rcases hn with h | h | h | h | h
        · omega
        · cases h
        · omega
        · omega
        · exact h
      clear hn k2 k3
      go_enter Try.func6, Try.ntmps6
      go_upto_region 1 with fail
      refine cut_world (fun X => X.cell? ⟨w.heap.size, 0, none⟩ = some (.bool false) ∧ Below w.heap.size w X) ⟨?_, below_alloc (below_alloc (Below.refl _ _) _) _⟩ ?_
      · rw [((Whole.new _ _ _).alloc _).cell]
        exact HL0.out
      rintro W ⟨hc0, hb0⟩
      have HB0 := Lib.hid hb0
      clear hb0
      go_wp2_with fail
      refine (alive_any _).mono ?_
      rintro e w9 ⟨rfl, hb⟩
      have HBZ := Lib.hid (below_trans HB0.out hb)
      clear hb
      go_wp2_with fail
      go_ret
      exact ⟨rfl, HBZ.out⟩
    · clear hn
      go_enter Try.func6, Try.ntmps6
      go_upto_region 1 with fail
      refine cut_world (fun X => X.cell? ⟨w.heap.size, 0, none⟩ = some (.bool true) ∧ Below w.heap.size w X) ⟨?_, below_alloc (below_alloc (Below.refl _ _) _) _⟩ ?_
      · rw [((Whole.new _ _ _).alloc _).cell]
        exact HL0.out
      rintro W ⟨hc0, hb0⟩
      have HB0 := Lib.hid hb0
      clear hb0
      go_wp2_with fail
      refine (alive_any _).mono ?_
      rintro e w9 ⟨rfl, hb⟩
      have HBZ := Lib.hid (below_trans HB0.out hb)
      clear hb
      go_wp2_with fail
      go_ret
      exact ⟨rfl, HBZ.out⟩
  obtain ⟨q, rfl⟩ : ∃ q : Nat, p = (q : Int) := ⟨p.toNat, by omega⟩
  obtain rfl : s = false := by
    rcases s with _ | _
    · rfl
    · exact absurd (.inr (.inl rfl)) hn
  have k1 : n ≤ 1000 := by omega
  have k2 : 1 ≤ q := by omega
  have k3 : q ≤ 19 := by omega
  have k4 : y ≠ 0 := by omega
  have k5 : ((y : Int) == 0) = false := by rw [beq_eq_false_iff_ne]; omega
  clear hn hp2
  by_cases hE : wrE false t f g n = 0
  · obtain ⟨_, _, hst, hm⟩ := wrE_zero hE
    subst hst
    have CW := Lib.hid (fun w hs => write_good false false f g HF.out HG.out A1 n c1 bd hE w hs)
    have hz0 : hsz false = 20 := rfl
    rw [hz0] at CW hm
    have HTL := Lib.hid (show ∀ i, wrF false f g n bd i < 256 from fun i => wrF_lt HF.out HG.out HBD.out (by omega) i)
    have hx := HTL.out q
    have HXV := Lib.hid (show wrF false f g n bd q ^^^ y < 256 from Nat.xor_lt_two_pow (n := 8) hx hy)
    have HRD := Lib.hid (wr_turned HF.out HG.out hE k2 k3 HXV.out (xor_ne _ _ k4))
    have HRN := Lib.hid (rd_nought (f := fun i => if i = q then wrF false f g n bd q ^^^ y else wrF false f g n bd i) (n := 20 + n) (by rw [HRD.out]; omega))
    have HXR := Lib.hid (show bits .xor .u8 ((wrF false f g n bd q : Nat) : Int) (y : Int) = ((wrF false f g n bd q ^^^ y : Nat) : Int) from u8_xor_nat _ _ hx hy)
    rw [hL, hM] at CW
    rw [hL, hM]
    obtain ⟨T, hT⟩ : ∃ T, wrF false f g n bd = T := ⟨_, rfl⟩
    rw [hT] at CW HTL hx HXV HRD HRN HXR
    obtain ⟨v, hv⟩ : ∃ v, T q = v := ⟨_, rfl⟩
    rw [hv] at hx HXV HRD HRN HXR
    obtain ⟨u, hu⟩ : ∃ u, v ^^^ y = u := ⟨_, rfl⟩
    rw [hu] at HXV HRD HRN HXR
    have HVV := Lib.hid hv
    clear hL hM hE hT hv hu hz0
    obtain ⟨zs, hz, hzs⟩ : ∃ zs : Array Value, (∀ w, (zeroValue 28).run Try.prog w = .ok (.agg zs) w) ∧ zs.size = 35 := ⟨_, zero_pack, pack_size _ _ _ _ _⟩
    have HZS := Lib.hid hzs
    have HEQ := Lib.hid (fun w => eqin_pack 9996 false false false false nought nought nought nought 0 0 (fun _ => by unfold nought; omega) (fun _ => by unfold nought; omega) (fun _ => by unfold nought; omega) (fun _ => by unfold nought; omega) true (by simp) w)
    have HB0 := Lib.hid pack_built0
    have HPO := Lib.hid (pack_one false nought false nought 0)
    have HPS := Lib.hid (packL_length false nought false nought 0)
    have HPA := Lib.hid (pack_size false nought false nought 0)
    obtain ⟨P, hP⟩ : ∃ P, packL false nought false nought 0 = P := ⟨_, rfl⟩
    rw [hP] at HEQ HB0 HPO HPS HPA HRN
    clear hzs hP
    go_enter Try.func6, Try.ntmps6
    go_upto_region 1 with fail
    refine cut_world (fun X => Whole X w.heap.size 26 L.toArray ∧ Whole X (w.heap.size + 1) 26 M.toArray ∧ Below w.heap.size w X) ⟨(Whole.new _ _ _).alloc _, whole_new _ _ (by simp), below_alloc (below_alloc (Below.refl _ _) _) _⟩ ?_
    rintro W ⟨p1, p2, pb⟩
    have P1 := Lib.hid p1
    have P2 := Lib.hid p2
    have PB := Lib.hid pb
    have c0 : W.cell? ⟨w.heap.size, 0, none⟩ = some (.bool false) := by rw [p1.cell, HL0.out]
    clear p1 p2 pb
    generalize hB : w.heap.size = B at P1 P2 c0
    go_wp2_with (first | (refine wpList_load_row_if (by rfl) 26 (.tmp 5) rfl B rfl 26 L _ P1.out rfl rfl (by rw [HLS.out]; kernel_rfl) ?_) | (refine wpList_load_row_if (by rfl) 26 (.tmp 6) rfl (B + 1) rfl 26 M _ P2.out rfl rfl (by rw [HMS.out]; kernel_rfl) ?_))
    refine (CW.out W (fun X hb => S1.out X (PB.out.trans (hb.mono PB.out.size)))).mono ?_
    rintro e w1 ⟨A2, c2, rfl, o2, hb2⟩
    obtain ⟨b, rfl, hBb, hbl⟩ := owns_some o2 (by omega)
    have QB := Lib.hid (below_trans PB.out hb2)
    have PBS := Lib.hid (Nat.le_trans PB.out.size hBb)
    have O2 := Lib.hid o2
    have hcell : w1.cell? ⟨b, q, none⟩ = some (.int .u8 (v : Nat)) := by
      have h := World.ownsRow.cellAt o2 q (by omega)
      rw [h, byteCells_get _ _ _ (by omega), HVV.out]
    have hfz : w1.frozen? ⟨b, q, none⟩ = false := World.ownsRow.frozenAt o2 q
    have hcap := le_cap o2
    have hmax := own_max o2
    have eX := HXR.out
    have hq0 : (0 : Int) ≤ (q : Int) := by omega
    have hqn : (q : Int) < ((20 + n : Nat) : Int) := by omega
    have hqn2 : q < 20 + n := by omega
    clear o2 hb2 P1 P2 PB CW S1 c0
    go_upto_region 9 with fail
    have hbs : Below w.heap.size w (w1.setCell ⟨b, q, none⟩ (.int .u8 (u : Nat))) := QB.out.setCell (by show w.heap.size ≤ b; have := PBS.out; omega) _
    refine cut_world (fun X => Rd X (some ⟨b, 0, none⟩) (20 + n) (fun i => if i = q then u else T i) ∧ Below w.heap.size w X) ⟨?_, hbs⟩ ?_
    · have h1 := (World.ownsRow.stored O2.out q (.int .u8 (u : Nat))).1
      have e := congrArg Array.toList (byteCells_set T (20 + n) q u)
      rw [List.setIfInBounds_toArray] at e
      dsimp only at e
      rw [e] at h1
      exact Own.rd h1
    clear hbs hcell hfz O2 QB
    rintro W3 ⟨r3, qb⟩
    have R3 := Lib.hid r3
    have QB := Lib.hid qb
    clear r3 qb
    have HUL : ∀ i, (fun i => if i = q then u else T i) i < 256 := fun i => by
      show (if i = q then u else T i) < 256
      split
      · exact HXV.out
      · exact HTL.out i
    have CR := Lib.hid (read_any (some ⟨b, 0, none⟩) (20 + n) c2 (fun i => if i = q then u else T i) HUL (by omega) hcap hmax W3 R3.out)
    rw [HRD.out, HRN.out] at CR
    clear HUL R3 eX
    go_wp2_with fail
    refine CR.out.mono ?_
    rintro e w3 ⟨rfl, hb4⟩
    have OB := Lib.hid (below_trans QB.out hb4)
    clear hb4 QB CR
    go_upto_region 10 with (refine wpList_store_row rfl 28 (.tmp 13) (.tmp 60) rfl w3.heap.size P.toArray rfl rfl 28 _ (Whole.new _ _ zs) (by rw [HPA.out]; kernel_rfl) (by rw [HPA.out, HZS.out]) HPO.out ?_)
    try simp only [Act.put]
    have hbs : Below w3.heap.size w3 ((w3.alloc (.cells zs 28)).setRow w3.heap.size P.toArray) := below_setRow (below_alloc (Below.refl _ _) _) (Nat.le_refl _) _
    refine cut_world (fun X => Whole X w3.heap.size 28 P.toArray ∧ Below w.heap.size w X) ⟨setRow_heap _ _ _ _ _ _ (Whole.new _ _ _), below_trans OB.out hbs⟩ ?_
    clear hbs OB hz
    generalize w3.heap.size = G2
    rintro W4 ⟨p3, pb⟩
    have P3 := Lib.hid p3
    have PB := Lib.hid pb
    clear p3 pb
    go_wp2_with fail
    refine (alive_any _).mono ?_
    rintro e w6 ⟨rfl, hb6⟩
    have R3 := Lib.hid (P3.out.below hb6 P3.out.lt)
    have RB := Lib.hid (below_trans PB.out hb6)
    clear hb6 P3 PB
    go_wp2_with (first | (refine wpList_load_row_if (by rfl) 28 (.tmp 13) rfl G2 rfl 28 P _ R3.out rfl rfl (by rw [HPS.out]; kernel_rfl) ?_) | (refine wpList_value_if (by rfl) (.agg P.toArray) (run_built0 28 rfl P.toArray HB0.out) ?_) | (refine wpList_value_if (by rfl) (.bool true) (run_eql_op 28 (.tmp 68) (.tmp 69) _ rfl P.toArray P.toArray rfl rfl true (by kernel_rfl) HEQ.out _) ?_))
    go_ret
    exact ⟨rfl, RB.out⟩
  · have CW := Lib.hid (fun w => write_bad false t f g HF.out HG.out A1 n c1 hE w)
    obtain ⟨E, hEE⟩ : ∃ E, wrE false t f g n = E := ⟨_, rfl⟩
    rw [hEE] at CW hE
    rw [hL, hM] at CW
    rw [hL, hM]
    have hne : ((E : Int) != 0) = true := by rw [bne_iff_ne]; omega
    clear hL hM hEE
    go_enter Try.func6, Try.ntmps6
    go_upto_region 1 with fail
    refine cut_world (fun X => Whole X w.heap.size 26 L.toArray ∧ Whole X (w.heap.size + 1) 26 M.toArray ∧ Below w.heap.size w X) ⟨(Whole.new _ _ _).alloc _, whole_new _ _ (by simp), below_alloc (below_alloc (Below.refl _ _) _) _⟩ ?_
    rintro W ⟨p1, p2, pb⟩
    have P1 := Lib.hid p1
    have P2 := Lib.hid p2
    have PB := Lib.hid pb
    have c0 : W.cell? ⟨w.heap.size, 0, none⟩ = some (.bool false) := by rw [p1.cell, HL0.out]
    clear p1 p2 pb
    generalize hB : w.heap.size = B at P1 P2 c0
    go_wp2_with (first | (refine wpList_load_row_if (by rfl) 26 (.tmp 5) rfl B rfl 26 L _ P1.out rfl rfl (by rw [HLS.out]; kernel_rfl) ?_) | (refine wpList_load_row_if (by rfl) 26 (.tmp 6) rfl (B + 1) rfl 26 M _ P2.out rfl rfl (by rw [HMS.out]; kernel_rfl) ?_))
    refine (CW.out W).mono ?_
    rintro e w1 ⟨rfl, hb2⟩
    have QB := Lib.hid (below_trans PB.out hb2)
    clear hb2 PB P1 P2 c0
    go_wp2_with fail
    refine (alive_any _).mono ?_
    rintro e w9 ⟨rfl, hb⟩
    have HBZ := Lib.hid (below_trans QB.out hb)
    clear hb
    go_wp2_with fail
    go_ret
    exact ⟨rfl, HBZ.out⟩

end InnerTurned
end Go.Proofs.Ytiemcfgjpcnloaa
