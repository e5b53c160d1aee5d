/- The walk of TrieOrder. -/
import Derived.Test.YtobfpbmgipgdcaaTrOrd
namespace Go.Proofs.Ytobfpbmgipgdcaa
namespace TrieOrder
open Go.ChangeShapes Go.WideShapes Go.ChangeAt Go.RowKit
open Num Mem Words Chacha Aead Poly Quiet Ops Adr RowS Tri

theorem and1023 (n : Int) : bits .and .i64 n 1023 = n % 1024 := by
  have h : (BitVec.ofInt 64 n &&& BitVec.ofInt 64 1023).toNat = (n % 1024).toNat := by
    rw [BitVec.toNat_and, show (BitVec.ofInt 64 1023).toNat = 2 ^ 10 - 1 from rfl, Nat.and_two_pow_sub_one_eq_mod]
    rw [BitVec.toNat_ofInt]
    omega
  show IntKind.i64.wrap ((BitVec.ofInt 64 n &&& BitVec.ofInt 64 1023).toNat : Int) = _
  rw [h]
  simp [IntKind.wrap, IntKind.bits, IntKind.signed]
  omega
theorem ops_at {w : World} {A : Option Addr} {n : Nat} {Q : Nat → Opm} (h : IsOps w A n Q) {k : Nat} (hk : k < n) : ∃ b off, A = some ⟨b, off, none⟩ ∧ ∀ V, Below w.heap.size w V → ∀ i, i < n → V.rangeAt b (off + i * 37) (Q i).cells ∧ V.rangeAt b (off + i * 37 + 1) (prefL (Q i).s (Q i).g (Q i).z) := by
  rcases h.rd with h0 | ⟨b, off, e, hlt, hx⟩
  · omega
  · refine ⟨b, off, e, fun V hV i hi => ?_⟩
    have hr : V.rangeAt b (off + i * 37) (Q i).cells := fun j v hj => by
      rw [Nat.add_assoc]
      exact (hV.cell (p := ⟨b, off + (i * 37 + j), none⟩) hlt).trans (hx i hi j v hj)
    refine ⟨hr, fun j v hj => ?_⟩
    have := hr (1 + j) v ((Q i).pref hj)
    rw [show off + i * 37 + 1 + j = off + i * 37 + (1 + j) by omega]
    exact this
theorem put_step {X : World} {t : Tm} {q : Option Nat} (h : TrW X t q) (hf : t.Fit) {x : Opm} (hx : x.Ok) : Calls Try.prog 21 #[ptrV q, .agg (prefL x.s x.g x.z).toArray, .int .i64 x.o] X fun e w' => ∃ k, e = .returned (.tuple #[ptrV k, .int .i64 (putE x.s x.g x.z x.o t.a t.b : Nat)]) ∧ Below X.heap.size X w' ∧ (putE x.s x.g x.z x.o t.a t.b = 0 → TrW w' (pT t x) k) ∧ (putE x.s x.g x.z x.o t.a t.b ≠ 0 → pT t x = t) :=
  (put_any h hf.oka hf.okb x.s x.g hx.g x.z hx.z0 hx.z1 x.o hx.o hf.len).mono fun e w' ⟨k, h1, h2, h3, h4⟩ => ⟨k, h1, h2, (fun he => by
    obtain ⟨r, rfl, hr⟩ := h4 he
    unfold pT
    rw [if_pos he]
    exact hr), fun he => by unfold pT; rw [if_neg he]⟩
structure OrW (w : World) (EC : List Value) (X : World) : Prop where
  e : Whole X w.heap.size 31 EC.toArray
  bel : Below w.heap.size w X
theorem OrW.below {w : World} {EC : List Value} {X Y : World} (h : OrW w EC X) (hb : Below X.heap.size X Y) : OrW w EC Y := ⟨h.e.below hb h.e.lt, h.bel.trans (hb.mono h.bel.size)⟩
theorem zero_op : ∃ Z : Array Value, Z.size = 37 ∧ ∀ w : World, (zeroValue 31).run Try.prog w = .ok (.agg Z) w := ⟨_, (by decide : (Array.mk (Value.int .i64 0 :: (prefL false nought 0 ++ (Value.int .i64 0 :: addrL false nought)))).size = 37), fun w => by kernel_rfl⟩
set_option maxRecDepth 100000 in
set_option maxHeartbeats 16000000 in
theorem walk0 {w : World} {A : Option Addr} {n c : Nat} {Q : Nat → Opm} (h : IsOps w A n Q) (turn : Int) (E : Opm) (hE : E.Ok) :
    Calls Try.prog 6 #[.slice A n c, .int .i64 turn, .agg E.cells.toArray] w fun e w' => e = .returned (.bool true) ∧ Below w.heap.size w w' := by
  have HO := Lib.hid h
  have HEC := Lib.hid (show ∀ X, Whole X w.heap.size 31 E.cells.toArray → X.rangeAt w.heap.size 1 (prefL E.s E.g E.z) ∧ X.cell? ⟨w.heap.size, 19, none⟩ = some (.int .i64 E.o) from fun X h => ⟨fun j v hj => by rw [h.cell, List.getElem?_toArray]; exact E.pref hj, by rw [h.cell, List.getElem?_toArray]; exact E.owner⟩)
  have HEP := Lib.hid (prefL_length E.s E.g E.z)
  have HEO := Lib.hid hE
  obtain ⟨EC, hEC⟩ : ∃ EC, E.cells = EC := ⟨_, rfl⟩
  rw [hEC] at HEC ⊢
  clear h hEC hE
  by_cases hn : 50 < n
  · go_enter Try.func6, Try.ntmps6
    go_wp2_with fail
    refine (alive_any _).mono ?_
    rintro e X1 ⟨rfl, hb⟩
    have HBE := Lib.hid ((below_alloc (Below.refl w.heap.size w) (.cells EC.toArray 31)).trans (hb.mono (by simp)))
    clear hb
    go_wp2_with fail
    go_ret
    exact ⟨rfl, HBE.out⟩
  · have hn50 : n ≤ 50 := by omega
    have hgt : decide ((50 : Int) < (n : Int)) = false := decide_eq_false (by omega)
    go_enter Try.func6, Try.ntmps6
    go_upto_region 1 with fail
    refine cut_world (fun X => OrW w EC X) ⟨Whole.new _ _ _, below_alloc (Below.refl _ _) _⟩ ?_
    rintro X0 h0
    have HX0 := Lib.hid h0
    clear h0
    go_wp2_with fail
    go_loopw [9] (fun t9 X => ∃ i : Nat, i ≤ n ∧ t9 = .int .i64 i ∧ (∀ j2, j2 < i → ∀ j1, j1 < j2 → ¬ samePf (Q j1) (Q j2)) ∧ OrW w EC X) (fun i _ => n - (intOf i).toNat)
    case atStart => exact ⟨0, Nat.zero_le _, rfl, fun j2 h2 => by omega, HX0.out⟩
    case round =>
      obtain ⟨i, hi, rfl, hdist, hW⟩ := hrel
      have HD := Lib.hid hdist
      have HW := Lib.hid hW
      clear hdist hW
      by_cases hlt : i < n
      · go_wp2_with fail
        go_loopw [10] (fun t10 X => ∃ k : Nat, k ≤ i ∧ t10 = .int .i64 k ∧ (∀ j1, j1 < k → ¬ samePf (Q j1) (Q i)) ∧ OrW w EC X) (fun k _ => i - (intOf k).toNat)
        case atStart => exact ⟨0, Nat.zero_le _, rfl, fun j1 h1 => by omega, HW.out⟩
        case round =>
          obtain ⟨k, hk, rfl, hds, hV⟩ := hrel
          have HDS := Lib.hid hds
          have HV := Lib.hid hV
          clear hds hV
          by_cases hki : k < i
          · have hkn : k < n := by omega
            obtain ⟨b, off, rfl, hat⟩ := ops_at HO.out hlt
            have HAT := Lib.hid (fun V (hV : Below wr.heap.size wr V) => hat V (HV.out.bel.trans (hV.mono HV.out.bel.size)))
            have HPK := Lib.hid (prefL_length (Q k).s (Q k).g (Q k).z)
            have HPI := Lib.hid (prefL_length (Q i).s (Q i).g (Q i).z)
            obtain ⟨d, hd⟩ : ∃ d : Bool, d = true ↔ samePf (Q k) (Q i) := by
              by_cases e : samePf (Q k) (Q i)
              · exact ⟨true, fun _ => e, fun _ => rfl⟩
              · exact ⟨false, (fun c => by cases c), fun c => absurd c e⟩
            have HEQ := Lib.hid (fun X => eqin_pref 9996 (Q k).s (Q i).s (Q k).g (Q i).g (Q k).z (Q i).z (HO.out.ok k hkn).g (HO.out.ok i hlt).g d hd X)
            have HDD := Lib.hid hd
            have HRK := Lib.hid (show ∀ V, Below wr.heap.size wr V → V.rangeAt b (off + k * 37 + 1) (prefL (Q k).s (Q k).g (Q k).z) ∧ V.rangeAt b (off + i * 37 + 1) (prefL (Q i).s (Q i).g (Q i).z) from fun V hV => ⟨(HAT.out V hV k hkn).2, (HAT.out V hV i hlt).2⟩)
            obtain ⟨PK, hPK⟩ : ∃ PK, prefL (Q k).s (Q k).g (Q k).z = PK := ⟨_, rfl⟩
            obtain ⟨PI, hPI⟩ : ∃ PI, prefL (Q i).s (Q i).g (Q i).z = PI := ⟨_, rfl⟩
            rw [hPK] at HPK HEQ HRK
            rw [hPI] at HPI HEQ HRK
            clear hat hd hPK hPI HAT
            go_upto_region 10 with fail
            refine q_start (by kernel_rfl) (by kernel_rfl) ?_
            refine Ops.wq_in ?_
            refine Ops.wq_take _ (by rfl) (fun X hx => by go_simp; try with_reducible rfl) ?_
            try simp only [Act.put, List.setIfInBounds_toArray, List.set_cons_zero, List.set_cons_succ]
            refine Ops.wq_take _ (by rfl) (fun X hx => by go_simp; try with_reducible rfl) ?_
            try simp only [Act.put, List.setIfInBounds_toArray, List.set_cons_zero, List.set_cons_succ]
            refine Ops.wq_take _ (by rfl) (fun X hx => by go_simp; try with_reducible rfl) ?_
            try simp only [Act.put, List.setIfInBounds_toArray, List.set_cons_zero, List.set_cons_succ]
            refine Ops.wq_take _ (by rfl) (fun X hx => by go_simp; try with_reducible rfl) ?_
            try simp only [Act.put, List.setIfInBounds_toArray, List.set_cons_zero, List.set_cons_succ]
            refine Ops.wq_take (.agg PK.toArray) (by rfl) (fun X hx => run_mid_in 29 (.tmp 45) rfl b (off + k * 37 + 1) (by go_simp) PK _ (HRK.out X hx).1 rfl rfl (by rw [HPK.out]; kernel_rfl)) ?_
            try simp only [Act.put, List.setIfInBounds_toArray, List.set_cons_zero, List.set_cons_succ]
            refine Ops.wq_take _ (by rfl) (fun X hx => by go_simp; try with_reducible rfl) ?_
            try simp only [Act.put, List.setIfInBounds_toArray, List.set_cons_zero, List.set_cons_succ]
            refine Ops.wq_take _ (by rfl) (fun X hx => by go_simp; try with_reducible rfl) ?_
            try simp only [Act.put, List.setIfInBounds_toArray, List.set_cons_zero, List.set_cons_succ]
            refine Ops.wq_take _ (by rfl) (fun X hx => by go_simp; try with_reducible rfl) ?_
            try simp only [Act.put, List.setIfInBounds_toArray, List.set_cons_zero, List.set_cons_succ]
            refine Ops.wq_take _ (by rfl) (fun X hx => by go_simp; try with_reducible rfl) ?_
            try simp only [Act.put, List.setIfInBounds_toArray, List.set_cons_zero, List.set_cons_succ]
            refine Ops.wq_take (.agg PI.toArray) (by rfl) (fun X hx => run_mid_in 29 (.tmp 50) rfl b (off + i * 37 + 1) (by go_simp) PI _ (HRK.out X hx).2 rfl rfl (by rw [HPI.out]; kernel_rfl)) ?_
            try simp only [Act.put, List.setIfInBounds_toArray, List.set_cons_zero, List.set_cons_succ]
            refine Ops.wq_take (.bool d) (by rfl) (fun X hx => Ops.run_eql_op 29 (.tmp 46) (.tmp 51) 29 rfl PK.toArray PI.toArray rfl rfl d (by kernel_rfl) (fun w => HEQ.out w) X) ?_
            try simp only [Act.put, List.setIfInBounds_toArray, List.set_cons_zero, List.set_cons_succ]
            refine Ops.wq_end ?_
            intro X5 hb5
            have HX5 := Lib.hid (HV.out.below hb5)
            clear hb5
            cases d with
            | true =>
              go_wp2_with fail
              refine (alive_any _).mono ?_
              rintro e X6 ⟨rfl, hb⟩
              have HBE := Lib.hid (HX5.out.below hb).bel
              clear hb
              go_wp2_with fail
              go_ret
              exact ⟨rfl, HBE.out⟩
            | false =>
              have HNX := Lib.hid (show ∀ j1, j1 < k + 1 → ¬ samePf (Q j1) (Q i) from fun j1 h1 c => by
                rcases Nat.lt_or_ge j1 k with h2 | h2
                · exact HDS.out j1 h2 c
                · have : j1 = k := by omega
                  subst this
                  have := HDD.out.2 c
                  cases this)
              go_wp2_with fail
              go_round
              case rel => exact ⟨k + 1, by omega, by go_num, HNX.out, HX5.out⟩
              case measure => simp only [intOf]; omega
          · obtain rfl : k = i := by omega
            have HNX := Lib.hid (show ∀ j2, j2 < k + 1 → ∀ j1, j1 < j2 → ¬ samePf (Q j1) (Q j2) from fun j2 h2 j1 h1 => by
              rcases Nat.lt_or_ge j2 k with h3 | h3
              · exact HD.out j2 h3 j1 h1
              · have : j2 = k := by omega
                subst this
                exact HDS.out j1 h1)
            go_wp2_with fail
            go_round
            case rel => exact ⟨k + 1, by omega, by go_num, HNX.out, HV.out⟩
            case measure => simp only [intOf]; omega
      · obtain rfl : i = n := by omega
        have hsym : ∀ x y : Opm, samePf x y → samePf y x := fun x y h => ⟨⟨h.1.1.symm, fun j hj => (h.1.2 j hj).symm⟩, h.2.symm⟩
        have hd : ∀ a b, a < i → b < i → a ≠ b → ¬ samePf (Q a) (Q b) := fun a b ha hb hne c => by
          rcases Nat.lt_or_ge a b with h | h
          · exact HD.out b hb a h c
          · exact HD.out a ha b (by omega) (hsym _ _ c)
        have HA := Lib.hid (and1023 turn)
        have ht1 := Int.emod_nonneg turn (show (1024 : Int) ≠ 0 by omega)
        have ht2 := Int.emod_lt_of_pos turn (show (0 : Int) < 1024 by omega)
        obtain ⟨T, hT⟩ : ∃ T : Nat, turn % 1024 = (T : Int) := ⟨(turn % 1024).toNat, by omega⟩
        rw [hT] at HA
        have hT2 : T < 1024 := by omega
        clear ht1 ht2 hT
        have hts := turned_same (τ := T) hn50 HO.out.ok hd
        have HFA := Lib.hid (fun k (hk : k ≤ i) => (puts_all hn50 HO.out.ok hd k hk).1)
        have HFB := Lib.hid (show ∀ k, k ≤ i → (putsT (fun j => Q (turnI i T j)) k).Fit from fun k hk => by
          rcases Nat.eq_zero_or_pos i with h0 | h0
          · have : k = 0 := by omega
            subst this; exact em_fit
          · exact (puts_all (P := fun j => Q (turnI i T j)) hn50 (fun j _ => HO.out.ok _ (turn_lt h0)) (fun a b ha hb hne => hd _ _ (turn_lt h0) (turn_lt h0) (fun c => hne (turn_inj ha hb c))) k hk).1)
        have HSAME := Lib.hid hts.2.2
        obtain ⟨P2, hP2⟩ : ∃ P2 : Nat → Opm, (fun j => Q (turnI i T j)) = P2 := ⟨_, rfl⟩
        have HP2 := Lib.hid (show ∀ j, P2 j = Q (turnI i T j) from fun j => by rw [← hP2])
        rw [hP2] at HFB HSAME
        clear hP2 hts hd hsym HD
        go_wp2_with fail
        go_loopw [7, 8, 11] (fun t7 t8 t11 X => ∃ (k : Nat) (qa qb : Option Nat), k ≤ i ∧ t11 = .int .i64 k ∧ t7 = ptrV qa ∧ t8 = ptrV qb ∧ TrW X (putsT Q k) qa ∧ TrW X (putsT P2 k) qb ∧ OrW w EC X) (fun _ _ k _ => i - (intOf k).toNat)
        case atStart => exact ⟨0, none, none, Nat.zero_le _, rfl, rfl, rfl, em_w _, em_w _, HW.out⟩
        case round =>
          clear HW
          obtain ⟨k, qa, qb, hk, rfl, rfl, rfl, hTA, hTB, hW⟩ := hrel
          have HW := Lib.hid (show TrW wr (putsT Q k) qa ∧ TrW wr (putsT P2 k) qb ∧ OrW w EC wr from ⟨hTA, hTB, hW⟩)
          clear hTA hTB hW
          by_cases hki : k < i
          · have hj : turnI i T k < i := turn_lt (by omega)
            obtain ⟨j, hjj⟩ : ∃ j, turnI i T k = j := ⟨_, rfl⟩
            rw [hjj] at hj
            have hjI : ((k : Int) + (T : Int)).tmod (i : Int) = (j : Int) := by rw [← hjj]; unfold turnI; rw [Int.natCast_emod, Int.natCast_add]; exact Int.tmod_eq_emod_of_nonneg (by omega)
            have hy : P2 k = Q j := by rw [HP2.out, hjj]
            have hne : i ≠ 0 := by omega
            have HNE := Lib.hid hne
            have HJ := Lib.hid hjI
            have w5 : IntKind.i64.wrap ((k : Int) + T) = (k : Int) + T := by rw [IntKind.wrap_i64]; omega
            have W5 := Lib.hid w5
            obtain ⟨b, off, rfl, hat⟩ := ops_at HO.out hki
            have HRX := Lib.hid (show ∀ V, Below wr.heap.size wr V → V.rangeAt b (off + k * 37) (Q k).cells ∧ V.rangeAt b (off + j * 37) (Q j).cells from fun V hV => ⟨(hat V (HW.out.2.2.bel.trans (hV.mono HW.out.2.2.bel.size)) k hki).1, (hat V (HW.out.2.2.bel.trans (hV.mono HW.out.2.2.bel.size)) j hj).1⟩)
            have HXL := Lib.hid (show (Q k).cells.length = 37 ∧ (Q k).cells.toArray.all (·.oneCell') = true ∧ (Q j).cells.length = 37 ∧ (Q j).cells.toArray.all (·.oneCell') = true from ⟨(Q k).len, Opm.one _, (Q j).len, Opm.one _⟩)
            have HSX := Lib.hid (fun X (hX : TrW X (putsT Q k) qa) => put_step hX (HFA.out k hk) (HO.out.ok k hki))
            have HSY := Lib.hid (fun X (hX : TrW X (putsT P2 k) qb) => put_step hX (HFB.out k hk) (x := P2 k) (by rw [hy]; exact HO.out.ok j hj))
            have HTX := Lib.hid (show putsT Q (k + 1) = pT (putsT Q k) (Q k) ∧ putsT P2 (k + 1) = pT (putsT P2 k) (P2 k) from ⟨rfl, rfl⟩)
            rw [hy] at HSY HTX
            obtain ⟨Z, hZS, hz⟩ := zero_op
            have HZS := Lib.hid hZS
            have HMX := Lib.hid (show ∀ V N1, Whole V N1 31 (Q k).cells.toArray → V.rangeAt N1 1 (prefL (Q k).s (Q k).g (Q k).z) ∧ V.cell? ⟨N1, 19, none⟩ = some (.int .i64 (Q k).o) from fun V N1 h => ⟨fun j v hj => by rw [h.cell, List.getElem?_toArray]; exact (Q k).pref hj, by rw [h.cell, List.getElem?_toArray]; exact (Q k).owner⟩)
            have HMY := Lib.hid (show ∀ V N1, Whole V N1 31 (Q j).cells.toArray → V.rangeAt N1 1 (prefL (Q j).s (Q j).g (Q j).z) ∧ V.cell? ⟨N1, 19, none⟩ = some (.int .i64 (Q j).o) from fun V N1 h => ⟨fun j2 v hj => by rw [h.cell, List.getElem?_toArray]; exact (Q j).pref hj, by rw [h.cell, List.getElem?_toArray]; exact (Q j).owner⟩)
            have HPX := Lib.hid (And.intro (prefL_length (Q k).s (Q k).g (Q k).z) (prefL_length (Q j).s (Q j).g (Q j).z))
            obtain ⟨CX, hCX⟩ : ∃ CX, (Q k).cells = CX := ⟨_, rfl⟩
            rw [hCX] at HRX HXL HMX
            obtain ⟨CY, hCY⟩ : ∃ CY, (Q j).cells = CY := ⟨_, rfl⟩
            rw [hCY] at HRX HXL HMY
            obtain ⟨PX, hPX⟩ : ∃ PX, prefL (Q k).s (Q k).g (Q k).z = PX := ⟨_, rfl⟩
            rw [hPX] at HMX HPX HSX
            obtain ⟨PY, hPY⟩ : ∃ PY, prefL (Q j).s (Q j).g (Q j).z = PY := ⟨_, rfl⟩
            rw [hPY] at HMY HPX HSY
            clear hat hjI hy hne hjj w5 hZS hCX hCY hPX hPY
            go_upto_region 15 with fail
            go_cut [12, 13] (fun t12 t13 X => ∃ N1 N2, t12 = .pointer (some ⟨N1, 0, none⟩) ∧ t13 = .pointer (some ⟨N2, 0, none⟩) ∧ Whole X N1 31 CX.toArray ∧ Whole X N2 31 CY.toArray ∧ Below wr.heap.size wr X)
            case first =>
              obtain ⟨B0, hB0⟩ : ∃ B0, wr.heap.size = B0 := ⟨_, rfl⟩
              have HB0 := Lib.hid hB0
              rw [hB0] at HRX
              clear hB0
              refine region_drew (fun V => Below B0 wr V) (by kernel_rfl) (Below.drew (Below.refl _ _)) (fun hS => ?_)
              refine take 0 _ rfl (by kernel_rfl) (by kernel_rfl) (by kernel_rfl) (fun _ _ _ h => h) (by rfl) hS (by intro w _; go_simp; with_reducible rfl) ?_
              try simp only [Act.put, List.setIfInBounds_toArray, List.set_cons_zero, List.set_cons_succ]
              refine take 1 _ rfl (by kernel_rfl) (by kernel_rfl) (by kernel_rfl) (fun _ _ _ h => h) (by rfl) hS (by intro w _; go_simp; with_reducible rfl) ?_
              try simp only [Act.put, List.setIfInBounds_toArray, List.set_cons_zero, List.set_cons_succ]
              refine take 2 _ rfl (by kernel_rfl) (by kernel_rfl) (by kernel_rfl) (fun _ _ _ h => h) (by rfl) hS (by intro w _; go_simp; with_reducible rfl) ?_
              try simp only [Act.put, List.setIfInBounds_toArray, List.set_cons_zero, List.set_cons_succ]
              refine take 3 (.agg CX.toArray) rfl (by kernel_rfl) (by kernel_rfl) (by kernel_rfl) (fun _ _ _ h => h) (by rfl) hS (fun w0 hw => run_mid_in 31 (.tmp 62) rfl b (off + k * 37) (by go_simp) CX _ (HRX.out w0 hw).1 rfl rfl (by rw [HXL.out.1]; kernel_rfl)) ?_
              try simp only [Act.put, List.setIfInBounds_toArray, List.set_cons_zero, List.set_cons_succ]
              refine take 4 _ rfl (by kernel_rfl) (by kernel_rfl) (by kernel_rfl) (fun _ _ _ h => h) (by rfl) hS (by intro w _; go_simp; with_reducible rfl) ?_
              try simp only [Act.put, List.setIfInBounds_toArray, List.set_cons_zero, List.set_cons_succ]
              refine take 5 _ rfl (by kernel_rfl) (by kernel_rfl) (by kernel_rfl) (fun _ _ _ h => h) (by rfl) hS (by intro w _; go_simp; with_reducible rfl) ?_
              try simp only [Act.put, List.setIfInBounds_toArray, List.set_cons_zero, List.set_cons_succ]
              refine take 6 _ rfl (by kernel_rfl) (by kernel_rfl) (by kernel_rfl) (fun _ _ _ h => h) (by rfl) hS (by intro w _; go_simp; with_reducible rfl) ?_
              try simp only [Act.put, List.setIfInBounds_toArray, List.set_cons_zero, List.set_cons_succ]
              refine take 7 (.int .i64 (T : Nat)) rfl (by kernel_rfl) (by kernel_rfl) (by kernel_rfl) (fun _ _ _ h => h) (by rfl) hS (by intro w0 _; go_simp; rw [HA.out]; try with_reducible rfl) ?_
              try simp only [Act.put, List.setIfInBounds_toArray, List.set_cons_zero, List.set_cons_succ]
              refine take 8 (.int .i64 ((k : Int) + T)) rfl (by kernel_rfl) (by kernel_rfl) (by kernel_rfl) (fun _ _ _ h => h) (by rfl) hS (by intro w0 _; go_simp; try rw [W5.out]; try with_reducible rfl) ?_
              try simp only [Act.put, List.setIfInBounds_toArray, List.set_cons_zero, List.set_cons_succ]
              refine take 9 _ rfl (by kernel_rfl) (by kernel_rfl) (by kernel_rfl) (fun _ _ _ h => h) (by rfl) hS (by intro w _; go_simp; with_reducible rfl) ?_
              try simp only [Act.put, List.setIfInBounds_toArray, List.set_cons_zero, List.set_cons_succ]
              refine take 10 _ rfl (by kernel_rfl) (by kernel_rfl) (by kernel_rfl) (fun _ _ _ h => h) (by rfl) hS (by intro w _; go_simp; with_reducible rfl) ?_
              try simp only [Act.put, List.setIfInBounds_toArray, List.set_cons_zero, List.set_cons_succ]
              refine take 11 (.int .i64 (j : Nat)) rfl (by kernel_rfl) (by kernel_rfl) (by kernel_rfl) (fun _ _ _ h => h) (by rfl) hS (by intro w0 _; go_simp; rw [HJ.out, if_neg HNE.out]) ?_
              try simp only [Act.put, List.setIfInBounds_toArray, List.set_cons_zero, List.set_cons_succ]
              refine take 12 _ rfl (by kernel_rfl) (by kernel_rfl) (by kernel_rfl) (fun _ _ _ h => h) (by rfl) hS (by intro w _; go_simp; with_reducible rfl) ?_
              try simp only [Act.put, List.setIfInBounds_toArray, List.set_cons_zero, List.set_cons_succ]
              refine take 13 (.agg CY.toArray) rfl (by kernel_rfl) (by kernel_rfl) (by kernel_rfl) (fun _ _ _ h => h) (by rfl) hS (fun w0 hw => run_mid_in 31 (.tmp 72) rfl b (off + j * 37) (by go_simp) CY _ (HRX.out w0 hw).2 rfl rfl (by rw [HXL.out.2.2.1]; kernel_rfl)) ?_
              try simp only [Act.put, List.setIfInBounds_toArray, List.set_cons_zero, List.set_cons_succ]
              refine ready_two 14 15 rfl rfl (by kernel_rfl) (by rfl) (by rfl) ?_ ?_
              · skip
                intro K hK
                go_simp
                have hS2 : Below B0 wr (wr.drew.alloc (.cells Z 31)) := hS.alloc (Nat.le_of_eq HB0.out.symm) _
                refine hK.out _ _ hS2 ?_
                clear hK K
                try simp only [Act.put, List.setIfInBounds_toArray, List.set_cons_zero, List.set_cons_succ]
                refine alone 15 rfl (by kernel_rfl) (by rfl) ?_
                intro K hK
                go_simp
                have hS3 : Below B0 wr (((wr.alloc (.cells Z 31)).alloc (.cells Z 31)).drew) := hS2.alloc (Nat.le_trans (Nat.le_of_eq HB0.out.symm) hS2.size) _
                refine hK.out _ _ hS3 ?_
                clear hK K
                have HB1 := Lib.hid (show Whole (((wr.alloc (.cells Z 31)).alloc (.cells Z 31)).drew) wr.heap.size 31 Z ∧ Whole (((wr.alloc (.cells Z 31)).alloc (.cells Z 31)).drew) (wr.heap.size + 1) 31 Z from ⟨(Whole.new wr.drew _ _).alloc _, whole_new (w := wr.drew.alloc (.cells Z 31)) _ _ (by simp)⟩)
                obtain ⟨N1, hN1⟩ : ∃ N1, wr.heap.size = N1 := ⟨_, rfl⟩
                obtain ⟨N2, hN2⟩ : ∃ N2, wr.heap.size + 1 = N2 := ⟨_, rfl⟩
                have HNE2 := Lib.hid (show B0 ≤ N1 ∧ B0 ≤ N2 ∧ N1 ≠ N2 by have := HB0.out; omega)
                have HZ1 := Lib.hid (hN1 ▸ HB1.out.1)
                have HZ2 := Lib.hid (hN2 ▸ HB1.out.2)
                rw [hN2, hN1]
                clear HB1 hN1 hN2 hS hS2
                generalize ((wr.alloc (.cells Z 31)).alloc (.cells Z 31)).drew = Y at hS3 HZ1 HZ2 ⊢
                have hS := hS3
                clear hS3
                try simp only [Act.put, List.setIfInBounds_toArray, List.set_cons_zero, List.set_cons_succ]
                refine alone 16 rfl (by kernel_rfl) (by rfl) ?_
                intro K hK
                refine wp_store_row 31 (.tmp 12) (.tmp 63) rfl N1 CX.toArray (by rfl) (by rfl) 31 Z HZ1.out (by rw [List.size_toArray, HXL.out.1]; kernel_rfl) (by rw [HZS.out, List.size_toArray, HXL.out.1]) HXL.out.2.1 ?_
                have hS2 : Below B0 wr (Y.setRow N1 CX.toArray) := below_setRow hS HNE2.out.1 _
                refine hK.out _ _ hS2 ?_
                clear hK K
                have HZ1b := Lib.hid (show Whole (Y.setRow N1 CX.toArray) N1 31 CX.toArray from setRow_heap _ _ _ _ _ _ HZ1.out)
                have HZ2b := Lib.hid (show Whole (Y.setRow N1 CX.toArray) N2 31 Z from Whole.farRow HZ2.out (fun e => HNE2.out.2.2 e.symm) _)
                generalize Y.setRow N1 CX.toArray = Y2 at hS2 HZ1b HZ2b ⊢
                clear hS HZ1 HZ2
                clear Y
                have hS := hS2
                clear hS2
                try simp only [Act.put]
                refine alone 17 rfl (by kernel_rfl) (by rfl) ?_
                intro K hK
                refine wp_store_row 31 (.tmp 13) (.tmp 73) rfl N2 CY.toArray (by rfl) (by rfl) 31 Z HZ2b.out (by rw [List.size_toArray, HXL.out.2.2.1]; kernel_rfl) (by rw [HZS.out, List.size_toArray, HXL.out.2.2.1]) HXL.out.2.2.2 ?_
                have hS2 : Below B0 wr (Y2.setRow N2 CY.toArray) := below_setRow hS HNE2.out.2.1 _
                refine hK.out _ _ hS2 ?_
                clear hK K
                have HEND := Lib.hid (show Whole (Y2.setRow N2 CY.toArray) N1 31 CX.toArray ∧ Whole (Y2.setRow N2 CY.toArray) N2 31 CY.toArray ∧ Below B0 wr (Y2.setRow N2 CY.toArray) from ⟨Whole.farRow HZ1b.out HNE2.out.2.2 _, setRow_heap _ _ _ _ _ _ HZ2b.out, hS2⟩)
                try simp only [Act.put]
                refine region_end (by kernel_rfl) ?_
                go_wp2_with fail
                go_meet
                exact ⟨N1, N2, rfl, rfl, HEND.out.1, HEND.out.2.1, HB0.out ▸ HEND.out.2.2⟩
              · skip
                intro K hK
                go_simp
                have hS2 : Below B0 wr (wr.drew.alloc (.cells Z 31)) := hS.alloc (Nat.le_of_eq HB0.out.symm) _
                refine hK.out _ _ hS2 ?_
                clear hK K
                try simp only [Act.put, List.setIfInBounds_toArray, List.set_cons_zero, List.set_cons_succ]
                refine alone 14 rfl (by kernel_rfl) (by rfl) ?_
                intro K hK
                go_simp
                have hS3 : Below B0 wr (((wr.alloc (.cells Z 31)).alloc (.cells Z 31)).drew) := hS2.alloc (Nat.le_trans (Nat.le_of_eq HB0.out.symm) hS2.size) _
                refine hK.out _ _ hS3 ?_
                clear hK K
                have HB1 := Lib.hid (show Whole (((wr.alloc (.cells Z 31)).alloc (.cells Z 31)).drew) wr.heap.size 31 Z ∧ Whole (((wr.alloc (.cells Z 31)).alloc (.cells Z 31)).drew) (wr.heap.size + 1) 31 Z from ⟨(Whole.new wr.drew _ _).alloc _, whole_new (w := wr.drew.alloc (.cells Z 31)) _ _ (by simp)⟩)
                obtain ⟨N1, hN1⟩ : ∃ N1, wr.heap.size + 1 = N1 := ⟨_, rfl⟩
                obtain ⟨N2, hN2⟩ : ∃ N2, wr.heap.size = N2 := ⟨_, rfl⟩
                have HNE2 := Lib.hid (show B0 ≤ N1 ∧ B0 ≤ N2 ∧ N1 ≠ N2 by have := HB0.out; omega)
                have HZ1 := Lib.hid (hN1 ▸ HB1.out.2)
                have HZ2 := Lib.hid (hN2 ▸ HB1.out.1)
                rw [hN1, hN2]
                clear HB1 hN1 hN2 hS hS2
                generalize ((wr.alloc (.cells Z 31)).alloc (.cells Z 31)).drew = Y at hS3 HZ1 HZ2 ⊢
                have hS := hS3
                clear hS3
                try simp only [Act.put, List.setIfInBounds_toArray, List.set_cons_zero, List.set_cons_succ]
                refine alone 16 rfl (by kernel_rfl) (by rfl) ?_
                intro K hK
                refine wp_store_row 31 (.tmp 12) (.tmp 63) rfl N1 CX.toArray (by rfl) (by rfl) 31 Z HZ1.out (by rw [List.size_toArray, HXL.out.1]; kernel_rfl) (by rw [HZS.out, List.size_toArray, HXL.out.1]) HXL.out.2.1 ?_
                have hS2 : Below B0 wr (Y.setRow N1 CX.toArray) := below_setRow hS HNE2.out.1 _
                refine hK.out _ _ hS2 ?_
                clear hK K
                have HZ1b := Lib.hid (show Whole (Y.setRow N1 CX.toArray) N1 31 CX.toArray from setRow_heap _ _ _ _ _ _ HZ1.out)
                have HZ2b := Lib.hid (show Whole (Y.setRow N1 CX.toArray) N2 31 Z from Whole.farRow HZ2.out (fun e => HNE2.out.2.2 e.symm) _)
                generalize Y.setRow N1 CX.toArray = Y2 at hS2 HZ1b HZ2b ⊢
                clear hS HZ1 HZ2
                clear Y
                have hS := hS2
                clear hS2
                try simp only [Act.put]
                refine alone 17 rfl (by kernel_rfl) (by rfl) ?_
                intro K hK
                refine wp_store_row 31 (.tmp 13) (.tmp 73) rfl N2 CY.toArray (by rfl) (by rfl) 31 Z HZ2b.out (by rw [List.size_toArray, HXL.out.2.2.1]; kernel_rfl) (by rw [HZS.out, List.size_toArray, HXL.out.2.2.1]) HXL.out.2.2.2 ?_
                have hS2 : Below B0 wr (Y2.setRow N2 CY.toArray) := below_setRow hS HNE2.out.2.1 _
                refine hK.out _ _ hS2 ?_
                clear hK K
                have HEND := Lib.hid (show Whole (Y2.setRow N2 CY.toArray) N1 31 CX.toArray ∧ Whole (Y2.setRow N2 CY.toArray) N2 31 CY.toArray ∧ Below B0 wr (Y2.setRow N2 CY.toArray) from ⟨Whole.farRow HZ1b.out HNE2.out.2.2 _, setRow_heap _ _ _ _ _ _ HZ2b.out, hS2⟩)
                try simp only [Act.put]
                refine region_end (by kernel_rfl) ?_
                go_wp2_with fail
                go_meet
                exact ⟨N1, N2, rfl, rfl, HEND.out.1, HEND.out.2.1, HB0.out ▸ HEND.out.2.2⟩
            case rest =>
              obtain ⟨N1, N2, rfl, rfl, hn1, hn2, hbc⟩ := hcut
              have HX3 := Lib.hid (show Whole wc N1 31 CX.toArray ∧ Whole wc N2 31 CY.toArray ∧ TrW wc (putsT Q k) qa ∧ TrW wc (putsT P2 k) qb ∧ OrW w EC wc from ⟨hn1, hn2, HW.out.1.below hbc, HW.out.2.1.below hbc, HW.out.2.2.below hbc⟩)
              clear hn1 hn2 hbc HW
              obtain ⟨EX, hEX⟩ : ∃ EX, putE (Q k).s (Q k).g (Q k).z (Q k).o (putsT Q k).a (putsT Q k).b = EX := ⟨_, rfl⟩
              obtain ⟨EY, hEY⟩ : ∃ EY, putE (Q j).s (Q j).g (Q j).z (Q j).o (putsT P2 k).a (putsT P2 k).b = EY := ⟨_, rfl⟩
              rw [hEX] at HSX
              rw [hEY] at HSY
              clear hEX hEY HFA HFB HP2 HSAME hz HRX HA hT2 HJ HNE W5
              have c19 := (HMX.out _ _ HX3.out.1).2
              rcases Nat.eq_zero_or_pos EX with hx0 | hx0
              · subst hx0
                go_upto_region 19 with (first
                  | (refine wpList_load_mid rfl 29 (.tmp 76) rfl N1 1 rfl PX _ (HMX.out _ _ HX3.out.1).1 rfl rfl (by rw [HPX.out.1]; kernel_rfl) ?_)
                  | (go_at_call 21; refine (HSX.out _ HX3.out.2.2.1).mono ?_; rintro e X4 ⟨k4, rfl, hb4, h40, h41⟩; have HX4 := Lib.hid (show Whole X4 N1 31 CX.toArray ∧ Whole X4 N2 31 CY.toArray ∧ TrW X4 (putsT Q (k + 1)) k4 ∧ TrW X4 (putsT P2 k) qb ∧ OrW w EC X4 from ⟨HX3.out.1.below hb4 HX3.out.1.lt, HX3.out.2.1.below hb4 HX3.out.2.1.lt, (by rw [HTX.out.1]; exact h40 (by trivial)), HX3.out.2.2.2.1.below hb4, HX3.out.2.2.2.2.below hb4⟩); clear hb4 h40 h41))
                clear c19
                have c19b := (HMY.out _ _ HX4.out.2.1).2
                rcases Nat.eq_zero_or_pos EY with hy0 | hy0
                · subst hy0
                  go_wp2_with (first
                    | (refine wpList_load_mid rfl 29 (.tmp 88) rfl N2 1 rfl PY _ (HMY.out _ _ HX4.out.2.1).1 rfl rfl (by rw [HPX.out.2]; kernel_rfl) ?_)
                    | (go_at_call 21; refine (HSY.out _ HX4.out.2.2.2.1).mono ?_; rintro e X5 ⟨k5, rfl, hb5, h50, h51⟩; have HX5 := Lib.hid (show TrW X5 (putsT Q (k + 1)) k4 ∧ TrW X5 (putsT P2 (k + 1)) k5 ∧ OrW w EC X5 from ⟨HX4.out.2.2.1.below hb5, (by rw [HTX.out.2]; exact h50 (by trivial)), HX4.out.2.2.2.2.below hb5⟩); clear hb5 h50 h51))
                  go_round
                  case rel => exact ⟨k + 1, k4, k5, by omega, by go_num, rfl, rfl, HX5.out⟩
                  case measure => simp only [intOf]; omega
                · have hyE : (((EY : Nat) : Int) == 0) = false := by simp; omega
                  go_wp2_with (first
                    | (refine wpList_load_mid rfl 29 (.tmp 88) rfl N2 1 rfl PY _ (HMY.out _ _ HX4.out.2.1).1 rfl rfl (by rw [HPX.out.2]; kernel_rfl) ?_)
                    | (go_at_call 21; refine (HSY.out _ HX4.out.2.2.2.1).mono ?_; rintro e X5 ⟨k5, rfl, hb5, h50, h51⟩; have HX5 := Lib.hid (show TrW X5 (putsT Q (k + 1)) k4 ∧ TrW X5 (putsT P2 (k + 1)) qb ∧ OrW w EC X5 from ⟨HX4.out.2.2.1.below hb5, (by rw [HTX.out.2, h51 (by omega)]; exact HX4.out.2.2.2.1.below hb5), HX4.out.2.2.2.2.below hb5⟩); clear hb5 h50 h51))
                  go_round
                  case rel => exact ⟨k + 1, k4, qb, by omega, by go_num, rfl, rfl, HX5.out⟩
                  case measure => simp only [intOf]; omega
              · have hxE : (((EX : Nat) : Int) == 0) = false := by simp; omega
                go_upto_region 19 with (first
                  | (refine wpList_load_mid rfl 29 (.tmp 76) rfl N1 1 rfl PX _ (HMX.out _ _ HX3.out.1).1 rfl rfl (by rw [HPX.out.1]; kernel_rfl) ?_)
                  | (go_at_call 21; refine (HSX.out _ HX3.out.2.2.1).mono ?_; rintro e X4 ⟨k4, rfl, hb4, h40, h41⟩; have HX4 := Lib.hid (show Whole X4 N1 31 CX.toArray ∧ Whole X4 N2 31 CY.toArray ∧ TrW X4 (putsT Q (k + 1)) qa ∧ TrW X4 (putsT P2 k) qb ∧ OrW w EC X4 from ⟨HX3.out.1.below hb4 HX3.out.1.lt, HX3.out.2.1.below hb4 HX3.out.2.1.lt, (by rw [HTX.out.1, h41 (by omega)]; exact HX3.out.2.2.1.below hb4), HX3.out.2.2.2.1.below hb4, HX3.out.2.2.2.2.below hb4⟩); clear hb4 h40 h41))
                clear c19 hxE
                have c19b := (HMY.out _ _ HX4.out.2.1).2
                rcases Nat.eq_zero_or_pos EY with hy0 | hy0
                · subst hy0
                  go_wp2_with (first
                    | (refine wpList_load_mid rfl 29 (.tmp 88) rfl N2 1 rfl PY _ (HMY.out _ _ HX4.out.2.1).1 rfl rfl (by rw [HPX.out.2]; kernel_rfl) ?_)
                    | (go_at_call 21; refine (HSY.out _ HX4.out.2.2.2.1).mono ?_; rintro e X5 ⟨k5, rfl, hb5, h50, h51⟩; have HX5 := Lib.hid (show TrW X5 (putsT Q (k + 1)) qa ∧ TrW X5 (putsT P2 (k + 1)) k5 ∧ OrW w EC X5 from ⟨HX4.out.2.2.1.below hb5, (by rw [HTX.out.2]; exact h50 (by trivial)), HX4.out.2.2.2.2.below hb5⟩); clear hb5 h50 h51))
                  go_round
                  case rel => exact ⟨k + 1, qa, k5, by omega, by go_num, rfl, rfl, HX5.out⟩
                  case measure => simp only [intOf]; omega
                · have hyE : (((EY : Nat) : Int) == 0) = false := by simp; omega
                  go_wp2_with (first
                    | (refine wpList_load_mid rfl 29 (.tmp 88) rfl N2 1 rfl PY _ (HMY.out _ _ HX4.out.2.1).1 rfl rfl (by rw [HPX.out.2]; kernel_rfl) ?_)
                    | (go_at_call 21; refine (HSY.out _ HX4.out.2.2.2.1).mono ?_; rintro e X5 ⟨k5, rfl, hb5, h50, h51⟩; have HX5 := Lib.hid (show TrW X5 (putsT Q (k + 1)) qa ∧ TrW X5 (putsT P2 (k + 1)) qb ∧ OrW w EC X5 from ⟨HX4.out.2.2.1.below hb5, (by rw [HTX.out.2, h51 (by omega)]; exact HX4.out.2.2.2.1.below hb5), HX4.out.2.2.2.2.below hb5⟩); clear hb5 h50 h51))
                  go_round
                  case rel => exact ⟨k + 1, qa, qb, by omega, by go_num, rfl, rfl, HX5.out⟩
                  case measure => simp only [intOf]; omega
          · obtain rfl : k = i := by omega
            have hfa := HFA.out k (Nat.le_refl _)
            have hfb := HFB.out k (Nat.le_refl _)
            have hsm := HSAME.out
            obtain ⟨TA, hTA⟩ : ∃ TA, putsT Q k = TA := ⟨_, rfl⟩
            obtain ⟨TB, hTB⟩ : ∃ TB, putsT P2 k = TB := ⟨_, rfl⟩
            rw [hTA] at hfa hsm HW
            rw [hTB] at hfb hsm HW
            clear hTA hTB HFA HFB HSAME HP2 HO HA
            have HR1 := Lib.hid (show ∀ (U : Tm) (_ : U.Fit) (_ : U.L = TA.L) (X : World) (q : Option Nat), TrW X U q → Calls Try.prog 17 #[ptrV q] X fun e w' => ∃ R, e = .returned (.slice R TA.L.length TA.L.length) ∧ RdR w' R (flatR TA.L) ∧ Below X.heap.size X w' from fun U hU hL X q h => by
              have := routes_any h (Nat.le_trans hU.len (by decide))
              rw [show routes2 U.a U.b = U.L from rfl, hL] at this
              exact this)
            have HAS := Lib.hid (fun (X : World) (A : Option Addr) (c : Nat) (h : RdQ X A TA.L) => as_any c h (Nat.le_trans hfa.len (by decide)))
            have HSA := Lib.hid (fun (X : World) (A A2 : Option Addr) (c c2 : Nat) (h : RdQ X A TA.L) (h2 : RdQ X A2 TA.L) => same_any c c2 h h2 (Nat.le_trans hfa.len (by decide)) (Nat.le_trans hfa.len (by decide)) (fun x hx => (hfa.own x hx).1) (fun x hx => (hfa.own x hx).1) true ⟨fun _ => rfl, fun _ => rfl⟩)
            have HGA := Lib.hid (fun (X : World) (q : Option Nat) (h : TrW X TA q) => get_any h hfa.oka hfa.okb E.s E.g HEO.out.g E.z)
            have HPU := Lib.hid (fun (X : World) (q : Option Nat) (h : TrW X TA q) => put_any h hfa.oka hfa.okb E.s E.g HEO.out.g E.z HEO.out.z0 HEO.out.z1 E.o HEO.out.o hfa.len)
            have HPD := Lib.hid (fun hb he => put_drop hfa (x := E) HEO.out hb he)
            have HFF := Lib.hid (And.intro hfa hfb)
            have HSM := Lib.hid hsm
            obtain ⟨m, hm⟩ : ∃ m, TA.L.length = m := ⟨_, rfl⟩
            rw [hm] at HR1 HAS HSA
            obtain ⟨GB, hGB⟩ : ∃ GB, getB (holdR E.s E.g TA.a TA.b) E.s E.g E.z = GB := ⟨_, rfl⟩
            rw [hGB] at HGA HPD
            obtain ⟨EE, hEE⟩ : ∃ EE, putE E.s E.g E.z E.o TA.a TA.b = EE := ⟨_, rfl⟩
            rw [hEE] at HPU HPD
            have HDR := Lib.hid (fun (U : Tm) (hU : U.Fit) (X : World) (q : Option Nat) (h : TrW X U q) => drop_any h hU.oka hU.okb E.s E.g HEO.out.g E.z HEO.out.z0 HEO.out.z1)
            have HG2 := Lib.hid (fun (U : Tm) (hU : U.Fit) (X : World) (q : Option Nat) (h : TrW X U q) => get_any h hU.oka hU.okb E.s E.g HEO.out.g E.z)
            obtain ⟨PE, hPE⟩ : ∃ PE, prefL E.s E.g E.z = PE := ⟨_, rfl⟩
            rw [hPE] at HGA HPU HEC HEP HDR HG2
            clear hfa hfb hsm hm hGB hEE hPE hT2
            go_upto_region 23 with (first
              | (go_at_call 17; refine (HR1.out TA HFF.out.1 rfl _ qa HW.out.1).mono ?_; rintro e X2 ⟨R, rfl, hr, hb⟩; have HX2 := Lib.hid (show RdQ X2 R TA.L ∧ TrW X2 TA qa ∧ TrW X2 TB qb ∧ OrW w EC X2 from ⟨rdQ_of hr, HW.out.1.below hb, HW.out.2.1.below hb, HW.out.2.2.below hb⟩); clear hr hb HW)
              | (go_at_call 16; refine (HAS.out _ R m HX2.out.1).mono ?_; rintro e X3 ⟨R2, cr2, rfl, hr, hb⟩; have HX3 := Lib.hid (show RdQ X3 R2 TA.L ∧ TrW X3 TA qa ∧ TrW X3 TB qb ∧ OrW w EC X3 from ⟨hr, HX2.out.2.1.below hb, HX2.out.2.2.1.below hb, HX2.out.2.2.2.below hb⟩); clear hr hb HX2))
            go_upto_region 25 with (first
              | (go_at_call 17; refine (HR1.out TB HFF.out.2 HSM.out.symm _ qb HX3.out.2.2.1).mono ?_; rintro e X4 ⟨R3, rfl, hr, hb⟩; have HX4 := Lib.hid (show RdQ X4 R3 TA.L ∧ RdQ X4 R2 TA.L ∧ TrW X4 TA qa ∧ OrW w EC X4 from ⟨rdQ_of hr, HX3.out.1.below hb (Nat.le_refl _), HX3.out.2.1.below hb, HX3.out.2.2.2.below hb⟩); clear hr hb HX3)
              | (go_at_call 16; refine (HAS.out _ R3 m HX4.out.1).mono ?_; rintro e X5 ⟨R4, cr4, rfl, hr, hb⟩; have HX5 := Lib.hid (show RdQ X5 R4 TA.L ∧ RdQ X5 R2 TA.L ∧ TrW X5 TA qa ∧ OrW w EC X5 from ⟨hr, HX4.out.2.1.below hb (Nat.le_refl _), HX4.out.2.2.1.below hb, HX4.out.2.2.2.below hb⟩); clear hr hb HX4)
              | (go_at_call 15; refine (HSA.out _ R2 R4 cr2 cr4 HX5.out.2.1 HX5.out.1).mono ?_; rintro e X6 ⟨rfl, hb⟩; have HX6 := Lib.hid (show RdQ X6 R2 TA.L ∧ TrW X6 TA qa ∧ OrW w EC X6 from ⟨HX5.out.2.1.below hb (Nat.le_refl _), HX5.out.2.2.1.below hb, HX5.out.2.2.2.below hb⟩); clear hb HX5))
            cases GB with
            | true =>
              go_wp2_with (first
                | (refine wpList_load_mid rfl 29 (.tmp 109) rfl w.heap.size 1 rfl PE _ (HEC.out _ HX6.out.2.2.e).1 rfl rfl (by rw [HEP.out]; kernel_rfl) ?_)
                | (go_at_call 12; refine (HGA.out _ qa HX6.out.2.1).mono ?_; rintro e X7 ⟨rfl, hb⟩; have HX7 := Lib.hid (HX6.out.2.2.below hb); clear hb)
                | (go_at_call 18; refine (alive_any _).mono ?_; rintro e X8 ⟨rfl, hb⟩; have HBE := Lib.hid (HX7.out.below hb).bel; clear hb))
              go_wp2_with fail
              go_ret
              exact ⟨rfl, HBE.out⟩
            | false =>
              go_upto_region 28 with (first
                | (refine wpList_load_mid rfl 29 (.tmp 109) rfl w.heap.size 1 rfl PE _ (HEC.out _ HX6.out.2.2.e).1 rfl rfl (by rw [HEP.out]; kernel_rfl) ?_)
                | (go_at_call 12; refine (HGA.out _ qa HX6.out.2.1).mono ?_; rintro e X7 ⟨rfl, hb⟩; have HX7 := Lib.hid (show RdQ X7 R2 TA.L ∧ TrW X7 TA qa ∧ OrW w EC X7 from ⟨HX6.out.1.below hb (Nat.le_refl _), HX6.out.2.1.below hb, HX6.out.2.2.below hb⟩); clear hb HX6))
              have c19 := (HEC.out _ HX7.out.2.2.e).2
              rcases Nat.eq_zero_or_pos EE with he0 | he0
              · subst he0
                obtain ⟨C, hC, hcf, hdz, hgo, hgb, D, hD, hdf, hdl⟩ := HPD.out (by trivial) (by trivial)
                have HC := Lib.hid (And.intro hC (And.intro hcf (And.intro hdf (And.intro hdl hD))))
                have HDR2 := HDR.out C hcf
                have HGG := HG2.out C hcf
                rw [hgo, hgb] at HGG
                rw [hdz] at HDR2
                have HDC := Lib.hid HDR2
                have HGC := Lib.hid HGG
                clear hC hcf hdz hgo hgb hD hdf hdl HDR2 HGG
                go_upto_region 31 with (first
                  | (refine wpList_load_mid rfl 29 (.tmp 118) rfl w.heap.size 1 rfl PE _ (HEC.out _ HX7.out.2.2.e).1 rfl rfl (by rw [HEP.out]; kernel_rfl) ?_)
                  | (go_at_call 21; refine (HPU.out _ qa HX7.out.2.1).mono ?_; rintro e X8 ⟨qc, rfl, hb, _, h1⟩; obtain ⟨rc, rfl, hrc⟩ := h1 (by trivial); have HX8 := Lib.hid (show RdQ X8 R2 TA.L ∧ TrW X8 C (some rc) ∧ OrW w EC X8 from ⟨HX7.out.1.below hb (Nat.le_refl _), (by rw [HC.out.1]; exact hrc), HX7.out.2.2.below hb⟩); clear hb h1 hrc HX7))
                clear c19
                go_upto_region 32 with (first
                  | (refine wpList_load_mid rfl 29 (.tmp 130) rfl w.heap.size 1 rfl PE _ (HEC.out _ HX8.out.2.2.e).1 rfl rfl (by rw [HEP.out]; kernel_rfl) ?_)
                  | (go_at_call 22; refine (HDC.out _ (some rc) HX8.out.2.1).mono ?_; rintro e X9 ⟨qd, rfl, hb, _, h1⟩; obtain ⟨rd, rfl, hrd⟩ := h1 (by trivial); have HX9 := Lib.hid (show RdQ X9 R2 TA.L ∧ TrW X9 C (some rc) ∧ TrW X9 D (some rd) ∧ OrW w EC X9 from ⟨HX8.out.1.below hb (Nat.le_refl _), HX8.out.2.1.below hb, (by rw [HC.out.2.2.2.2]; exact hrd), HX8.out.2.2.below hb⟩); clear hb h1 hrd HX8))
                go_upto_region 33 with (first
                  | (refine wpList_load_mid rfl 29 (.tmp 137) rfl w.heap.size 1 rfl PE _ (HEC.out _ HX9.out.2.2.2.e).1 rfl rfl (by rw [HEP.out]; kernel_rfl) ?_)
                  | (go_at_call 12; refine (HGC.out _ (some rc) HX9.out.2.1).mono ?_; rintro e Xa ⟨rfl, hb⟩; have HXa := Lib.hid (show RdQ Xa R2 TA.L ∧ TrW Xa D (some rd) ∧ OrW w EC Xa from ⟨HX9.out.1.below hb (Nat.le_refl _), HX9.out.2.2.1.below hb, HX9.out.2.2.2.below hb⟩); clear hb HX9))
                go_wp2_with fail
                refine (alive_any _).mono ?_
                rintro e Y1 ⟨rfl, hb1⟩
                have HY1 := Lib.hid (show RdQ Y1 R2 TA.L ∧ TrW Y1 D (some rd) ∧ OrW w EC Y1 from ⟨HXa.out.1.below hb1 (Nat.le_refl _), HXa.out.2.1.below hb1, HXa.out.2.2.below hb1⟩)
                clear hb1 HXa
                go_wp2_with fail
                refine (HR1.out D HC.out.2.2.1 HC.out.2.2.2.1 _ (some rd) HY1.out.2.1).mono ?_
                rintro e Y2 ⟨R5, rfl, hr2, hb2⟩
                have HY2 := Lib.hid (show RdQ Y2 R5 TA.L ∧ RdQ Y2 R2 TA.L ∧ OrW w EC Y2 from ⟨rdQ_of hr2, HY1.out.1.below hb2 (Nat.le_refl _), HY1.out.2.2.below hb2⟩)
                clear hr2 hb2 HY1
                go_wp2_with fail
                refine (HAS.out _ R5 m HY2.out.1).mono ?_
                rintro e Y3 ⟨R6, cr6, rfl, hr3, hb3⟩
                have HY3 := Lib.hid (show RdQ Y3 R6 TA.L ∧ RdQ Y3 R2 TA.L ∧ OrW w EC Y3 from ⟨hr3, HY2.out.2.1.below hb3 (Nat.le_refl _), HY2.out.2.2.below hb3⟩)
                clear hr3 hb3 HY2
                go_wp2_with fail
                refine (HSA.out _ R6 R2 cr6 cr2 HY3.out.1 HY3.out.2.1).mono ?_
                rintro e Y4 ⟨rfl, hb4⟩
                have HY4 := Lib.hid (HY3.out.2.2.below hb4)
                clear hb4 HY3
                have c19 := (HEC.out _ HY4.out.e).2
                have hoo : (E.o == E.o) = true := by simp
                have HBE := Lib.hid HY4.out.bel
                go_wp2_with fail
                go_ret
                exact ⟨rfl, HBE.out⟩
              · have heE : (((EE : Nat) : Int) != 0) = true := by simp; omega
                go_wp2_with (first
                  | (refine wpList_load_mid rfl 29 (.tmp 118) rfl w.heap.size 1 rfl PE _ (HEC.out _ HX7.out.2.2.e).1 rfl rfl (by rw [HEP.out]; kernel_rfl) ?_)
                  | (go_at_call 21; refine (HPU.out _ qa HX7.out.2.1).mono ?_; rintro e X8 ⟨qc, rfl, hb, _, _⟩; have HX8 := Lib.hid (HX7.out.2.2.below hb); clear hb)
                  | (go_at_call 18; refine (alive_any _).mono ?_; rintro e X9 ⟨rfl, hb⟩; have HBE := Lib.hid (HX8.out.below hb).bel; clear hb))
                go_wp2_with fail
                go_ret
                exact ⟨rfl, HBE.out⟩
theorem walk (A : Option Addr) (n c : Nat) (turn : Int) (cs : List Value) (w : World) (h : Shp.Good w (.list (.obj shO)) [.slice A n c]) (_ : (Lit.int .i64 turn).wf = true) (hl : cs.length = 37) (hc : Shp.Good w shO cs) : Calls Try.prog 6 #[.slice A n c, .int .i64 turn, .agg cs.toArray] w fun e w' => e = .returned (.bool true) ∧ Below w.heap.size w w' := by
  obtain ⟨_, Q, hQ⟩ := open_ops h
  obtain ⟨E, rfl, hE⟩ := good_op hc hl
  exact walk0 hQ turn E hE
end TrieOrder
end Go.Proofs.Ytobfpbmgipgdcaa
