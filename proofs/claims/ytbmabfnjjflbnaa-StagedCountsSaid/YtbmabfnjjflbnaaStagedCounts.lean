/- The walk of StagedCounts. -/
import Derived.Test.YtbmabfnjjflbnaaYdOps
import Derived.Deep.CutBlock
namespace Go.Proofs.Ytbmabfnjjflbnaa
namespace StagedCounts
open Go.ChangeShapes Go.WideShapes Go.ChangeAt Go.RowKit Go.Maps
open Num Mem Words Chacha Aead Poly Quiet RowV Yd

structure Ct (w : World) (g b n o lim : Nat) (X : World) : Prop where
  yw : ∃ Y thrown, YW X w.heap.size g b Y n thrown ∧ n = o + allN Y + thrown
  few : n ≤ lim
  bel : Below w.heap.size w X
/-- the state at the switch -/
structure Sw (w : World) (g b n o lim p : Nat) (q : OpV) (Y : Int → List Pk) (t : Nat) (X : World) : Prop where
  yw : YW X w.heap.size g b Y n t
  sum : n = o + allN Y + t
  few : n ≤ lim
  bel : Below w.heap.size w X
  op : Whole X p 32 (opL q).toArray
  rd : Rd X q.A q.m q.f
  ag : ∀ a, q.A = some a → q.m ≠ 0 → Foreign w.heap.size X a.block
theorem Sw.ct {w : World} {g b n o lim p : Nat} {q : OpV} {Y : Int → List Pk} {t : Nat} {X : World} (h : Sw w g b n o lim p q Y t X) : Ct w g b n o lim X := ⟨⟨Y, t, h.yw, h.sum⟩, h.few, h.bel⟩
theorem Ct.more {w : World} {g b n o lim lim' : Nat} {X : World} (h : Ct w g b n o lim X) (hl : lim ≤ lim') : Ct w g b n o lim' X := ⟨h.yw, Nat.le_trans h.few hl, h.bel⟩
theorem bel_yk {B : Nat} {w X Y : World} (h : Below B w X) (k : Yk B X Y) (hB : B ≤ w.heap.size) : Below B w Y := h.trans (k.below (Nat.le_trans hB h.size))

set_option maxRecDepth 100000 in
set_option maxHeartbeats 4000000 in
theorem walk0 (A : Option Addr) (N c : Nat) (Q : Nat → OpV) (w : World) (h : IsOps w A N Q) (_ : N ≤ 9223372036854775807) : Calls Try.prog 7 #[.slice A N c] w fun e w' => e = .returned (.bool true) ∧ Below w.heap.size w w' := by
  have HQ := Lib.hid h
  have HN := Lib.hid (new_any w)
  have HAL := Lib.hid alive_ok
  clear h
  go_enter Try.func7, Try.ntmps7
  go_wp2_with fail
  refine HN.out.mono ?_
  rintro e w1 ⟨g, b, rfl, hb1, hy⟩
  have HC := Lib.hid (show Ct w g b 0 0 0 w1 from ⟨⟨_, 0, hy, rfl⟩, Nat.le_refl _, hb1⟩)
  clear hy hb1 HN
  go_wp2_with fail
  go_loopw [4, 5, 6] (fun n o i X => ∃ (n0 o0 k : Nat), k ≤ 200 ∧ n = .int .i64 n0 ∧ o = .int .i64 o0 ∧ i = .int .i64 k ∧ Ct w g b n0 o0 k X) (fun _ _ i _ => 200 - (intOf i).toNat)
  case atStart => exact ⟨0, 0, 0, by omega, rfl, rfl, rfl, HC.out⟩
  case round =>
    obtain ⟨n, o, k, hk, rfl, rfl, rfl, hct⟩ := hrel
    have HC1 := Lib.hid hct
    clear hct HC
    by_cases hlt : k < N ∧ k < 200
    · obtain ⟨hkN, hk2⟩ := hlt
      have hkN' : (k : Int) < (N : Int) := by omega
      have hk2' : (k : Int) < 200 := by omega
      obtain ⟨bo, off, rfl, hr⟩ := HQ.out.range HC1.out.bel hkN
      have HR := Lib.hid hr
      have hq := HQ.out.1 k hkN
      have HQK := Lib.hid hq
      obtain ⟨q, hqe⟩ : ∃ q, Q k = q := ⟨_, rfl⟩
      rw [hqe] at HR HQK
      clear hr hq hqe
      obtain ⟨V, hV⟩ : ∃ V, opL q = V := ⟨_, rfl⟩
      have HVS := Lib.hid (show V.toArray.size = 3 by rw [← hV]; rfl)
      have HVO := Lib.hid (show V.toArray.all (·.oneCell') = true by rw [← hV]; exact op_one q)
      have HV := Lib.hid hV
      have hVl : V.length = 3 := by rw [← hV]; rfl
      have HVL := Lib.hid hVl
      rw [hV] at HR
      clear hV hVl
      go_upto_region 7 with (first | (refine wpList_load_mid rfl 32 (.tmp 28) rfl bo (off + k * 3) rfl V _ HR.out rfl rfl (by rw [HVL.out]; kernel_rfl) ?_) | (refine wpList_store_row rfl 32 (.tmp 7) (.tmp 29) rfl wr.heap.size V.toArray rfl rfl 32 _ (Whole.new _ _ _) (by rw [HVS.out]; kernel_rfl) (by rw [HVS.out]; rfl) HVO.out ?_))
      obtain ⟨⟨Y, t, hyw, hsum⟩, hfew, hbel⟩ := HC1.out
      refine cut_world (fun X => Sw w g b n o k wr.heap.size q Y t X) (by
        have hb := below_var wr #[.int .i64 0, .int .i64 0, .slice none 0 0] V.toArray 32
        have hbw := hbel.trans (hb.mono hbel.size)
        refine ⟨hyw.below hb, hsum, hfew, hbw, ?_, ?_, fun a ha h0 => .inl (HQK.out.2.2.2.2.2 a ha h0)⟩
        · have h := setRow_heap _ _ _ V.toArray _ _ (Whole.new wr 32 #[.int .i64 0, .int .i64 0, .slice none 0 0])
          exact HV.out ▸ h
        · exact HQK.out.2.2.2.1.below hbw (Nat.le_refl _)) ?_
      have hkp : w.heap.size ≤ wr.heap.size := hbel.size
      generalize wr.heap.size = p at hkp ⊢
      intro X hX
      have HS := Lib.hid hX
      clear hX hyw hsum hfew hbel HR HVS HVO HV HVL HC1
      obtain ⟨qk, qo, qA, qm, qc, qf⟩ := q
      have c0 : X.cell? ⟨p, 0, none⟩ = some (.int .i64 qk) := HS.out.op.cell 0
      have c1 : X.cell? ⟨p, 1, none⟩ = some (.int .i64 qo) := HS.out.op.cell 1
      have c2 : X.cell? ⟨p, 2, none⟩ = some (.slice qA qm qc) := HS.out.op.cell 2
      have hqo : okI qo := HQK.out.2.1
      have hf : ∀ j, qf j < 256 := HQK.out.2.2.1
      have HF := Lib.hid hf
      have hqm : qm ≤ 9223372036854775807 := HQK.out.2.2.2.2.1
      clear HQK hf
      by_cases hlong : 1500 < qm
      · have hd : (1500 : Int) < (qm : Int) := by omega
        have HA := Lib.hid (HAL.out X)
        go_wp2_with fail
        refine HA.out.mono ?_
        rintro e w2 ⟨rfl, hb2⟩
        have HB2 := Lib.hid (HS.out.bel.trans (hb2.mono HS.out.bel.size))
        clear hb2
        go_wp2_with fail
        go_ret
        exact ⟨rfl, HB2.out⟩
      · have hd : ¬ (1500 : Int) < (qm : Int) := by omega
        go_upto_block 2 with fail
        go_cut [4, 5] (fun a z X => ∃ n o, a = .int .i64 (n : Nat) ∧ z = .int .i64 (o : Nat) ∧ Ct w g b n o (k + 1) X)
        case first =>
          have hfn := HS.out.few
          have hn6 : n < 1000000 := by omega
          have ht6 : t < 1000000 := by have := HS.out.sum; omega
          have hwn : IntKind.i64.wrap ((n : Int) + 1) = (n : Int) + 1 := by rw [IntKind.wrap_i64]; omega
          have hwo : IntKind.i64.wrap ((o : Int) + 1) = (o : Int) + 1 := by (have hos := HS.out.sum); rw [IntKind.wrap_i64]; omega
          have hB : w.heap.size ≤ X.heap.size := HS.out.bel.size
          by_cases h0 : qk = 0
          · subst h0
            by_cases hlo : qo < 1
            · have HC := Lib.hid (put_low g b _ _ qo qA qm qc X HS.out.yw.obj hlo)
              go_wp2_with fail
              refine HC.out.mono ?_
              rintro e w2 ⟨rfl, rfl⟩
              go_wp2_with fail
              go_meet
              exact ⟨n, o, rfl, rfl, HS.out.ct.more (Nat.le_succ _)⟩
            · by_cases hhi : 16 < qo
              · have HC := Lib.hid (put_high g b _ _ qo qA qm qc X HS.out.yw.obj hhi)
                go_wp2_with fail
                refine HC.out.mono ?_
                rintro e w2 ⟨rfl, rfl⟩
                go_wp2_with fail
                go_meet
                exact ⟨n, o, rfl, rfl, HS.out.ct.more (Nat.le_succ _)⟩
              · have HC := Lib.hid (put_ok HS.out.yw hB qo (by omega) (by omega) qA qm qc qf HF.out (by omega) hn6 ht6 HS.out.rd HS.out.ag)
                go_wp2_with fail
                refine HC.out.mono ?_
                rintro e w2 ⟨rfl, hy2, hk2⟩
                have hsum : n + 1 = o + allN (upd Y qo (pushP (Y qo) ⟨n + 1, qm, qf⟩)) + (t + if (Y qo).length = 8 then 1 else 0) := by
                  have h1 := allN_upd (Y := Y) qo (by omega) (by omega) (pushP (Y qo) ⟨n + 1, qm, qf⟩)
                  have h2 := pushP_length (Y qo) ⟨n + 1, qm, qf⟩
                  have hos := HS.out.sum
                  omega
                have HCT := Lib.hid (show Ct w g b (n + 1) o (k + 1) w2 from ⟨⟨_, _, hy2, hsum⟩, Nat.succ_le_succ hfn, bel_yk HS.out.bel hk2 (Nat.le_refl _)⟩)
                clear hy2 hk2 hsum HC
                go_wp2_with fail
                go_meet
                exact ⟨n + 1, o, by go_num, rfl, HCT.out⟩
          · have e0 : (qk == 0) = false := by rw [beq_eq_false_iff_ne]; exact h0
            have e0' : (qk = 0) = False := eq_false h0
            by_cases h1 : qk = 1
            · subst h1
              rcases hY : Y qo with _ | ⟨x, L⟩
              · have HC := Lib.hid (take_none HS.out.yw qo hqo hY)
                obtain ⟨Z, hZ⟩ : ∃ Z, zeroP.toArray = Z := ⟨_, rfl⟩
                have HZS := Lib.hid (show Z.size = 2 by rw [← hZ]; rfl)
                have HZO := Lib.hid (show Z.all (·.oneCell') = true by rw [← hZ]; simp [zeroP, Value.oneCell'])
                rw [hZ] at HC
                clear hZ
                go_wp2_with fail
                refine HC.out.mono ?_
                rintro e w2 ⟨rfl, hb2⟩
                have HCT := Lib.hid (show Ct w g b n o (k + 1) (w2.alloc (.cells #[.int .u64 0, .slice none 0 0] 46) |>.setRow w2.heap.size Z) from by
                  have hos := HS.out.sum
                  have hb3 := below_trans hb2 (below_var w2 #[.int .u64 0, .slice none 0 0] Z 46)
                  exact ⟨⟨Y, t, HS.out.yw.below hb3, hos⟩, Nat.le_succ_of_le hfn, HS.out.bel.trans (hb3.mono hB)⟩)
                clear hb2 HC
                go_wp2_with (refine wpList_store_row rfl 46 (.tmp 11) (.tmp 60) rfl w2.heap.size Z rfl rfl 46 _ (Whole.new _ _ _) (by rw [HZS.out]; kernel_rfl) (by rw [HZS.out]; rfl) HZO.out ?_)
                go_meet
                exact ⟨n, o, rfl, rfl, HCT.out⟩
              · have HC := Lib.hid (take_some HS.out.yw qo hqo x L hY)
                have hal := allN_take HS.out.yw hY
                go_wp2_with fail
                refine HC.out.mono ?_
                rintro e w2 ⟨a, rfl, -, hy2, hk2⟩
                obtain ⟨Z, hZ⟩ : ∃ Z, (pkL a x).toArray = Z := ⟨_, rfl⟩
                have HZS := Lib.hid (show Z.size = 2 by rw [← hZ]; rfl)
                have HZO := Lib.hid (show Z.all (·.oneCell') = true by rw [← hZ]; exact pk_one a x)
                unfold pkV
                rw [hZ]
                have HCT := Lib.hid (show Ct w g b n (o + 1) (k + 1) (w2.alloc (.cells #[.int .u64 0, .slice none 0 0] 46) |>.setRow w2.heap.size Z) from by
                  have hos := HS.out.sum
                  have hb3 := below_var w2 #[.int .u64 0, .slice none 0 0] Z 46
                  have hb2 := bel_yk HS.out.bel hk2 (Nat.le_refl _)
                  exact ⟨⟨_, t, hy2.below hb3, by omega⟩, Nat.le_succ_of_le hfn, hb2.trans (hb3.mono hb2.size)⟩)
                clear hy2 hk2 HC hZ
                go_wp2_with (refine wpList_store_row rfl 46 (.tmp 11) (.tmp 60) rfl w2.heap.size Z rfl rfl 46 _ (Whole.new _ _ _) (by rw [HZS.out]; kernel_rfl) (by rw [HZS.out]; rfl) HZO.out ?_)
                go_meet
                exact ⟨n, o + 1, rfl, by go_num, HCT.out⟩
            · have e1 : (qk == 1) = false := by rw [beq_eq_false_iff_ne]; exact h1
              have e1' : (qk = 1) = False := eq_false h1
              by_cases h2 : qk = 2
              · subst h2
                have HC := Lib.hid (takeAll_any HS.out.yw qo hqo)
                have hal := allN_del HS.out.yw qo
                have hfY := HS.out.yw.few qo
                obtain ⟨m, hm⟩ : ∃ m, (Y qo).length = m := ⟨_, rfl⟩
                rw [hm] at HC hal hfY
                have hwm : IntKind.i64.wrap ((o : Int) + (m : Int)) = (o : Int) + (m : Int) := by (have hos := HS.out.sum); rw [IntKind.wrap_i64]; omega
                clear hm
                go_wp2_with fail
                refine HC.out.mono ?_
                rintro e w2 ⟨E, A', c', rfl, -, -, -, hy2, hk2⟩
                have HCT := Lib.hid (show Ct w g b n (o + m) (k + 1) w2 from by have hos := HS.out.sum; exact ⟨⟨_, t, hy2, by omega⟩, Nat.le_succ_of_le hfn, bel_yk HS.out.bel hk2 (Nat.le_refl _)⟩)
                clear hy2 hk2 HC
                go_wp2_with fail
                go_meet
                exact ⟨n, o + m, rfl, by go_num, HCT.out⟩
              · have e2 : (qk == 2) = false := by rw [beq_eq_false_iff_ne]; exact h2
                have e2' : (qk = 2) = False := eq_false h2
                by_cases h3 : qk = 3
                · subst h3
                  rcases hY : Y qo with _ | ⟨x, L⟩
                  · have HC := Lib.hid (drop_none HS.out.yw qo hqo hY)
                    go_wp2_with fail
                    refine HC.out.mono ?_
                    rintro e w2 ⟨rfl, rfl⟩
                    go_wp2_with fail
                    go_meet
                    exact ⟨n, o, rfl, rfl, HS.out.ct.more (Nat.le_succ _)⟩
                  · have HC := Lib.hid (drop_some HS.out.yw qo hqo x L hY ht6)
                    have hal := allN_del HS.out.yw qo
                    go_wp2_with fail
                    refine HC.out.mono ?_
                    rintro e w2 ⟨rfl, hy2, hk2⟩
                    have HCT := Lib.hid (show Ct w g b n o (k + 1) w2 from by have hos := HS.out.sum; exact ⟨⟨_, _, hy2, by omega⟩, Nat.le_succ_of_le hfn, bel_yk HS.out.bel hk2 (Nat.le_refl _)⟩)
                    clear hy2 hk2 HC
                    go_wp2_with fail
                    go_meet
                    exact ⟨n, o, rfl, rfl, HCT.out⟩
                · have e3 : (qk == 3) = false := by rw [beq_eq_false_iff_ne]; exact h3
                  have e3' : (qk = 3) = False := eq_false h3
                  go_wp2_with fail
                  go_meet
                  exact ⟨n, o, rfl, rfl, HS.out.ct.more (Nat.le_succ _)⟩
        case rest =>
          obtain ⟨n2, o2, rfl, rfl, hct⟩ := hcut
          obtain ⟨⟨Y2, t2, hyw, hsum⟩, hfew, hbel⟩ := hct
          have HY2 := Lib.hid hyw
          have HB2 := Lib.hid hbel
          have HF2 := Lib.hid hyw.few
          have HSM0 := Lib.hid hsum
          clear hsum hyw hbel HS c0 c1 c2 hqo HF hqm hlong hd
          go_wp2_with fail
          go_loopw [13, 14] (fun a j X => ∃ j0 : Nat, 1 ≤ j0 ∧ j0 ≤ 17 ∧ j = .int .i64 j0 ∧ a = .int .i64 (sumN (fun o => (Y2 o).length) (j0 - 1) : Nat) ∧ X = wc) (fun _ j _ => 17 - (intOf j).toNat)
          case atStart => exact ⟨1, by omega, by omega, rfl, rfl, rfl⟩
          case round =>
            obtain ⟨j0, hj1, hj2, rfl, rfl, rfl⟩ := hrel
            by_cases hj : j0 ≤ 16
            · have hjl : (j0 : Int) ≤ 16 := by omega
              have HW := Lib.hid (waits_any (j0 : Int) (okI_of (by omega) (by omega)) HY2.out)
              have h8 := HF2.out (j0 : Int)
              have hsl := sumN_le HF2.out (j0 - 1)
              have hst : sumN (fun o => (Y2 o).length) (j0 - 1) + (Y2 (j0 : Int)).length = sumN (fun o => (Y2 o).length) (j0 + 1 - 1) := by
                obtain ⟨j1, rfl⟩ : ∃ j1, j0 = j1 + 1 := ⟨j0 - 1, by omega⟩
                rfl
              have HST := Lib.hid hst
              clear hst
              obtain ⟨m, hm⟩ : ∃ m, (Y2 (j0 : Int)).length = m := ⟨_, rfl⟩
              obtain ⟨s, hs⟩ : ∃ s, sumN (fun o => (Y2 o).length) (j0 - 1) = s := ⟨_, rfl⟩
              rw [hm] at HW h8
              rw [hm, hs] at HST
              rw [hs] at hsl
              rw [hs]
              clear hm hs
              have hwj : IntKind.i64.wrap ((j0 : Int) + 1) = (j0 : Int) + 1 := by rw [IntKind.wrap_i64]; omega
              have hsm : IntKind.i64.wrap ((s : Int) + (m : Int)) = (s : Int) + (m : Int) := by rw [IntKind.wrap_i64]; omega
              have hd8 : ¬ (8 : Int) < (m : Int) := by omega
              go_wp2_with fail
              refine HW.out.mono ?_
              rintro e w2 ⟨rfl, rfl⟩
              go_wp2_with fail
              refine HW.out.mono ?_
              rintro e w2 ⟨rfl, rfl⟩
              go_wp2_with fail
              go_round
              case rel => exact ⟨j0 + 1, by omega, by omega, by go_num, by rw [← HST.out]; go_num, trivial⟩
              case measure => simp [intOf]; omega
            · obtain rfl : j0 = 17 := by omega
              have HA := Lib.hid (all_any HY2.out)
              have hsum := HSM0.out
              have hal8 : allN Y2 ≤ 128 := sumN_le HF2.out 16
              rw [show sumN (fun o => (Y2 o).length) (17 - 1) = allN Y2 from rfl]
              obtain ⟨al, hal⟩ : ∃ al, allN Y2 = al := ⟨_, rfl⟩
              rw [hal] at HA hal8 hsum ⊢
              clear hal
              have h17 : (16 : Int) < ((17 : Nat) : Int) := by omega
              go_wp2_with fail
              refine HA.out.mono ?_
              rintro e w2 ⟨rfl, hb2⟩
              have HT := Lib.hid (thrown_any (HY2.out.below hb2))
              have HCT := Lib.hid (HB2.out.trans (hb2.mono HB2.out.size))
              have hs1 : IntKind.i64.wrap ((o2 : Int) + (al : Int)) = (o2 : Int) + (al : Int) := by rw [IntKind.wrap_i64]; omega
              have hs2 : IntKind.i64.wrap ((o2 : Int) + (al : Int) + (t2 : Int)) = (o2 : Int) + (al : Int) + (t2 : Int) := by rw [IntKind.wrap_i64]; omega
              have hs3 : IntKind.i64.wrap (t2 : Int) = (t2 : Int) := by rw [IntKind.wrap_i64]; omega
              have HY3 := Lib.hid (HY2.out.below hb2)
              have HSM := Lib.hid hsum
              have hne : ((n2 : Int) == (o2 : Int) + (al : Int) + (t2 : Int)) = true := by rw [beq_iff_eq]; omega
              have hne2 : (n2 : Int) = (o2 : Int) + (al : Int) + (t2 : Int) := by omega
              clear hb2 hsum
              go_wp2_with fail
              refine HT.out.mono ?_
              rintro e w3 ⟨rfl, rfl⟩
              go_wp2_with fail
              exact ⟨⟨n2, o2, k + 1, by omega, by congr 1; omega, rfl, by go_num, ⟨⟨Y2, t2, HY3.out, HSM0.out⟩, hfew, HCT.out⟩⟩, by simp [intOf]; omega⟩
    · have HA := Lib.hid (HAL.out wr)
      have HB := Lib.hid HC1.out.bel
      by_cases hkN : k < N
      · have hkN' : (k : Int) < (N : Int) := by omega
        have hk2' : ¬ (k : Int) < 200 := by omega
        clear hlt HC1
        go_wp2_with fail
        refine HA.out.mono ?_
        rintro e w2 ⟨rfl, hb2⟩
        have HB2 := Lib.hid (HB.out.trans (hb2.mono HB.out.size))
        clear hb2
        go_wp2_with fail
        go_ret
        exact ⟨rfl, HB2.out⟩
      · have hkN' : ¬ (k : Int) < (N : Int) := by omega
        clear hlt HC1
        go_wp2_with fail
        refine HA.out.mono ?_
        rintro e w2 ⟨rfl, hb2⟩
        have HB2 := Lib.hid (HB.out.trans (hb2.mono HB.out.size))
        clear hb2
        go_wp2_with fail
        go_ret
        exact ⟨rfl, HB2.out⟩

theorem walk (A : Option Addr) (n c : Nat) (w : World) (h : Shp.Good w (.list (.obj shOp)) [.slice A n c]) : Calls Try.prog 7 #[.slice A n c] w fun e w' => e = .returned (.bool true) ∧ Below w.heap.size w w' := by
  obtain ⟨hn, Q, hQ⟩ := open_ops h
  exact walk0 A n c Q w hQ hn
end StagedCounts
end Go.Proofs.Ytbmabfnjjflbnaa
