/- The walk of StagedOrder. -/
import Derived.Test.YtbmabfnjjflbnaaYdOrd
import Derived.Test.YtbmabfnjjflbnaaOps
import Derived.Deep.CutBlock
namespace Go.Proofs.Ytbmabfnjjflbnaa
namespace StagedOrder
open Go.ChangeShapes Go.WideShapes Go.ChangeAt Go.RowKit Go.Maps
open Num Mem Words Chacha Aead Poly Quiet RowV RowS Yd

structure Sw (w : World) (g b n gp gl : Nat) (Y : Int → List Pk) (t : Nat) (P : Nat → List Nat) (S : Nat → Option Addr × Nat) (l : Nat → Nat) (p : Nat) (q : OpV) (X : World) : Prop where
  or : OrW w g b n gp gl Y t P S l X
  op : Whole X p 32 (opL q).toArray
  rd : Rd X q.A q.m q.f
  ag : ∀ a, q.A = some a → q.m ≠ 0 → Foreign w.heap.size X a.block
theorem Sw.below {w : World} {g b n gp gl : Nat} {Y : Int → List Pk} {t : Nat} {P : Nat → List Nat} {S : Nat → Option Addr × Nat} {l : Nat → Nat} {p : Nat} {q : OpV} {X Z : World} (h : Sw w g b n gp gl Y t P S l p q X) (hb : Below X.heap.size X Z) : OrW w g b n gp gl Y t P S l Z ∧ Whole Z p 32 (opL q).toArray := ⟨h.or.below hb, h.op.below hb h.op.lt⟩
structure Inn (w : World) (g b n gp gl : Nat) (Y : Int → List Pk) (t : Nat) (P : Nat → List Nat) (S : Nat → Option Addr × Nat) (l : Nat → Nat) (p : Nat) (q : OpV) (r v a : Nat) (x : Pk) (X : World) : Prop where
  or : OrW w g b n gp gl Y t P S l X
  op : Whole X p 32 (opL q).toArray
  pk : Whole X r 46 #[.int .u64 (v : Nat), .slice (some ⟨a, 0, none⟩) x.len x.len]
section
variable {w : World} {g b n gp gl : Nat} {Y : Int → List Pk} {t : Nat} {P : Nat → List Nat} {S : Nat → Option Addr × Nat} {l : Nat → Nat} {p : Nat} {q : OpV} {r v a : Nat} {x : Pk} {X X' : World}
theorem Inn.below (h : Inn w g b n gp gl Y t P S l p q r v a x X) (hb : Below X.heap.size X X') : Inn w g b n gp gl Y t P S l p q r v a x X' := ⟨h.or.below hb, h.op.below hb h.op.lt, h.pk.below hb h.pk.lt⟩
theorem Inn.own (h : Inn w g b n gp gl Y t P S l p q r v a x X) : X.cell? ⟨p, 1, none⟩ = some (.int .i64 q.o) := h.op.cell 1
theorem Inn.num (h : Inn w g b n gp gl Y t P S l p q r v a x X) : X.cell? ⟨r, 0, none⟩ = some (.int .u64 (v : Nat)) := h.pk.cell 0
theorem Inn.putc (h : Inn w g b n gp gl Y t P S l p q r v a x X) {o : Nat} (ho : o < 17) {len : Nat} (hl : (P o).length = len) : X.cell? ⟨gp, o, none⟩ = some (.slice (S o).1 len (S o).2) := by
  rw [h.or.put.cell, List.getElem?_toArray, cells17_get _ ho]
  unfold putV
  rw [hl]
theorem Inn.lastc (h : Inn w g b n gp gl Y t P S l p q r v a x X) {o : Nat} (ho : o < 17) : X.cell? ⟨gl, o, none⟩ = some (.int .u64 (l o : Nat)) := by
  rw [h.or.lst.cell, List.getElem?_toArray, cells17_get _ ho]
  rfl
theorem Inn.block (h : Inn w g b n gp gl Y t P S l p q r v a x X) {o : Nat} (ho : o < 17) {len : Nat} (hl : (P o).length = len) (h0 : 0 < len) : ∃ bk, (S o).1 = some ⟨bk, 0, none⟩ := by
  have hr := h.or.rows o ho
  unfold putV at hr
  rw [hl] at hr
  obtain ⟨bk, e, _⟩ := own_cells hr h0
  exact ⟨bk, e⟩
theorem Inn.rowc (h : Inn w g b n gp gl Y t P S l p q r v a x X) {o : Nat} (ho : o < 17) {len bk : Nat} (hl : (P o).length = len) (hb : (S o).1 = some ⟨bk, 0, none⟩) {j y : Nat} (hj : j < len) (hy : (P o)[j]? = some y) : X.cell? ⟨bk, j, none⟩ = some (.int .u64 (y : Nat)) := by
  have hr := h.or.rows o ho
  unfold putV at hr
  rw [hl] at hr
  obtain ⟨bk', e, _, _, hc⟩ := own_cells hr (by omega)
  rw [hb] at e
  injection e with e
  injection e with e
  subst e
  exact (hc j _ (numsL_get _ _ _ hy)).1
end
theorem u64_infoN : (Try.prog.info? 27).map (fun i => (i.zero, i.size, i.bytes)) = some (some (.int .u64 0), 1, 8) := by kernel_rfl

set_option maxRecDepth 100000 in
set_option maxHeartbeats 4000000 in
theorem walk0 (A : Option Addr) (N c : Nat) (Q : Nat → OpV) (w : World) (h : IsOps w A N Q) : Calls Try.prog 5 #[.slice A N c] w fun e w' => e = .returned (.bool true) ∧ Below w.heap.size w w' := by
  have HQ := Lib.hid h
  have HN := Lib.hid (new_any w)
  have HAL := Lib.hid alive_ok
  clear h
  go_enter Try.func5, Try.ntmps5
  go_wp2_with fail
  refine HN.out.mono ?_
  rintro e w1 ⟨g, b, rfl, hb1, hy⟩
  have HY := Lib.hid hy
  have HB := Lib.hid hb1
  clear hy hb1 HN
  go_upto_region 4 with fail
  refine cut_world (fun X => OrW w g b 0 w1.heap.size (w1.heap.size + 1) (fun _ => []) 0 (fun _ => []) (fun _ => (none, 0)) (fun _ => 0) X) (by
    have hb2 := below_alloc (below_alloc (Below.refl w1.heap.size w1) (.cells (cells17 (putV (fun _ => []) (fun _ => (none, 0)))).toArray 53)) (.cells (cells17 (lstV fun _ => 0)).toArray 54)
    exact ⟨HY.out.below hb2, (Whole.new w1 53 (cells17 (putV (fun _ => []) (fun _ => (none, 0)))).toArray).alloc _, whole_new _ _ (by simp), fun o ho => ⟨rfl, .inl ⟨rfl, rfl⟩⟩, fun o o' h1 h2 h3 i hi => by simp [putV, Value.ownBlock] at hi, HB.out.trans (hb2.mono HB.out.size), HB.out.size, Nat.le_succ_of_le HB.out.size, Nat.le_refl _⟩) ?_
  obtain ⟨gp, hgp⟩ : ∃ gp, w1.heap.size = gp := ⟨_, rfl⟩
  rw [hgp]
  obtain ⟨gl, hgl⟩ : ∃ gl, gp + 1 = gl := ⟨_, rfl⟩
  rw [hgl]
  clear HY HB hgp hgl
  clear w1
  intro X0 hX0
  have HC := Lib.hid hX0
  clear hX0
  have hinv0 : Inv (fun _ => []) (fun _ => []) (fun _ => 0) 0 := ⟨fun o _ _ => Ord.nil 0, fun _ => Nat.le_refl _⟩
  have HI := Lib.hid hinv0
  clear hinv0
  go_wp2_with fail
  go_loopw [6] (fun i X => ∃ n t Y P S l k, k ≤ 200 ∧ i = .int .i64 (k : Nat) ∧ n ≤ k ∧ OrW w g b n gp gl Y t P S l X ∧ Inv Y P l n) (fun i _ => 200 - (intOf i).toNat)
  case atStart => exact ⟨0, 0, _, _, _, _, 0, by omega, rfl, by omega, HC.out, HI.out⟩
  case round =>
    obtain ⟨n, t, Y, P, S, l, k, hk, rfl, hnk, hor, hinv⟩ := hrel
    have HC1 := Lib.hid hor
    have HI1 := Lib.hid hinv
    clear hor hinv HC HI
    by_cases hlt : k < N ∧ k < 200
    · obtain ⟨hkN, hk2⟩ := hlt
      have hkN' : (k : Int) < (N : Int) := by omega
      have hk2' : (k : Int) < 200 := by omega
      obtain ⟨bo, off, rfl, hr⟩ := HQ.out.range HC1.out.bel hkN
      have HR := Lib.hid hr
      have hq := HQ.out.1 k hkN
      have HQK := Lib.hid hq
      obtain ⟨q, hqe⟩ : ∃ q, Q k = q := ⟨_, rfl⟩
      rw [hqe] at HR HQK
      clear hr hq hqe
      obtain ⟨V, hV⟩ : ∃ V, opL q = V := ⟨_, rfl⟩
      have HVS := Lib.hid (show V.toArray.size = 3 by rw [← hV]; rfl)
      have HVO := Lib.hid (show V.toArray.all (·.oneCell') = true by rw [← hV]; exact op_one q)
      have HV := Lib.hid hV
      have hVl : V.length = 3 := by rw [← hV]; rfl
      have HVL := Lib.hid hVl
      rw [hV] at HR
      clear hV hVl
      go_upto_region 8 with (first | (refine wpList_load_mid rfl 32 (.tmp 28) rfl bo (off + k * 3) rfl V _ HR.out rfl rfl (by rw [HVL.out]; kernel_rfl) ?_) | (refine wpList_store_row rfl 32 (.tmp 7) (.tmp 29) rfl wr.heap.size V.toArray rfl rfl 32 _ (Whole.new _ _ _) (by rw [HVS.out]; kernel_rfl) (by rw [HVS.out]; rfl) HVO.out ?_))
      refine cut_world (fun X => Sw w g b n gp gl Y t P S l wr.heap.size q X) (by
        have hb := below_var wr #[.int .i64 0, .int .i64 0, .slice none 0 0] V.toArray 32
        have hbw := HC1.out.bel.trans (hb.mono HC1.out.bel.size)
        refine ⟨HC1.out.below hb, ?_, ?_, fun a ha h0 => .inl (HQK.out.2.2.2.2.2 a ha h0)⟩
        · have h := setRow_heap _ _ _ V.toArray _ _ (Whole.new wr 32 #[.int .i64 0, .int .i64 0, .slice none 0 0])
          exact HV.out ▸ h
        · exact HQK.out.2.2.2.1.below hbw (Nat.le_refl _)) ?_
      have hkp : w.heap.size ≤ wr.heap.size := HC1.out.bel.size
      generalize wr.heap.size = p at hkp ⊢
      intro X hX
      have HS := Lib.hid hX
      clear hX HR HVS HVO HV HVL HC1
      obtain ⟨qk, qo, qA, qm, qc, qf⟩ := q
      have c0 : X.cell? ⟨p, 0, none⟩ = some (.int .i64 qk) := HS.out.op.cell 0
      have c1 : X.cell? ⟨p, 1, none⟩ = some (.int .i64 qo) := HS.out.op.cell 1
      have c2 : X.cell? ⟨p, 2, none⟩ = some (.slice qA qm qc) := HS.out.op.cell 2
      have hqo : okI qo := HQK.out.2.1
      have hf : ∀ j, qf j < 256 := HQK.out.2.2.1
      have HF := Lib.hid hf
      have hqm : qm ≤ 9223372036854775807 := HQK.out.2.2.2.2.1
      clear HQK hf
      by_cases hlong : 1500 < qm
      · have hd : (1500 : Int) < (qm : Int) := by omega
        have HA := Lib.hid (HAL.out X)
        go_wp2_with fail
        refine HA.out.mono ?_
        rintro e w2 ⟨rfl, hb2⟩
        have HB2 := Lib.hid (HS.out.or.bel.trans (hb2.mono HS.out.or.bel.size))
        clear hb2
        go_wp2_with fail
        go_ret
        exact ⟨rfl, HB2.out⟩
      · have hd : ¬ (1500 : Int) < (qm : Int) := by omega
        have hB : w.heap.size ≤ X.heap.size := HS.out.or.bel.size
        have htn := HS.out.or.tn
        by_cases h0 : qk = 0
        · subst h0
          by_cases hlo : qo < 1
          · have HC := Lib.hid (put_low g b _ _ qo qA qm qc X HS.out.or.yw.obj hlo)
            go_wp2_with fail
            refine HC.out.mono ?_
            rintro e w2 ⟨rfl, rfl⟩
            go_wp2_with fail
            go_round
            case rel => exact ⟨n, t, Y, P, S, l, k + 1, by omega, by go_num, by omega, HS.out.or, HI1.out⟩
            case measure => simp [intOf]; omega
          · by_cases hhi : 16 < qo
            · have HC := Lib.hid (put_high g b _ _ qo qA qm qc X HS.out.or.yw.obj hhi)
              go_wp2_with fail
              refine HC.out.mono ?_
              rintro e w2 ⟨rfl, rfl⟩
              go_wp2_with fail
              go_round
              case rel => exact ⟨n, t, Y, P, S, l, k + 1, by omega, by go_num, by omega, HS.out.or, HI1.out⟩
              case measure => simp [intOf]; omega
            · obtain ⟨o, rfl⟩ : ∃ o : Nat, qo = (o : Int) := ⟨qo.toNat, by omega⟩
              have ho1 : 1 ≤ o := by omega
              have ho2 : o ≤ 16 := by omega
              have HC := Lib.hid (put_ok HS.out.or.yw hB (o : Int) (by omega) (by omega) qA qm qc qf HF.out (by omega) (by omega) (by omega) HS.out.rd HS.out.ag)
              go_wp2_with fail
              refine HC.out.mono ?_
              rintro e w2 ⟨rfl, hy2, hk2y⟩
              have hop2 := hk2y.whole HS.out.op (by decide) (by decide)
              obtain ⟨kn, hkn⟩ : ∃ kn, n + 1 = kn := ⟨_, rfl⟩
              have hkn2 : (n : Int) + 1 = (kn : Int) := by omega
              rw [hkn] at hy2
              have HO2 := Lib.hid (HS.out.or.call hk2y hy2 (by split <;> omega))
              have HP2 := Lib.hid hop2
              have c1 : w2.cell? ⟨p, 1, none⟩ = some (.int .i64 (o : Nat)) := hop2.cell 1
              clear hy2 hk2y hop2 HC HS
              have hlo2 : ¬ (o : Int) < 1 := by omega
              have hhi2 : ¬ 16 < (o : Int) := by omega
              have ho17 : o < 17 := by omega
              have ho17' : (o : Int) < 17 := by omega
              go_upto_region 15 with fail
              have CO := Lib.hid (fun V (h : Whole V p 32 (opL ⟨0, (o : Int), qA, qm, qc, qf⟩).toArray) => (show V.cell? ⟨p, 1, none⟩ = some (.int .i64 (o : Nat)) from h.cell 1))
              have hgpl := HO2.out.gpb
              have hpgp : p ≠ gp := by
                rintro rfl
                exact absurd (whole_type HP2.out HO2.out.put) (by decide)
              clear c1
              refine region_drew (fun V => Whole V p 32 (opL ⟨0, (o : Int), qA, qm, qc, qf⟩).toArray) (by kernel_rfl) HP2.out (fun hS => ?_)
              refine take 0 _ rfl (by kernel_rfl) (by kernel_rfl) (by kernel_rfl) (fun _ _ _ h => h) (by rfl) hS (by intro w _; go_simp; with_reducible rfl) ?_
              try simp only [Act.put, List.setIfInBounds_toArray, List.set_cons_zero, List.set_cons_succ]
              refine take 1 _ rfl (by kernel_rfl) (by kernel_rfl) (by kernel_rfl) (fun _ _ _ h => h) (by rfl) hS (by intro w hw; have hcl := CO.out w hw; go_simp; with_reducible rfl) ?_
              try simp only [Act.put, List.setIfInBounds_toArray, List.set_cons_zero, List.set_cons_succ]
              refine take 2 _ rfl (by kernel_rfl) (by kernel_rfl) (by kernel_rfl) (fun _ _ _ h => h) (by rfl) hS (by intro w _; go_simp; with_reducible rfl) ?_
              try simp only [Act.put, List.setIfInBounds_toArray, List.set_cons_zero, List.set_cons_succ]
              refine take 3 _ rfl (by kernel_rfl) (by kernel_rfl) (by kernel_rfl) (fun _ _ _ h => h) (by rfl) hS (by intro w hw; have hcl := CO.out w hw; go_simp; with_reducible rfl) ?_
              try simp only [Act.put, List.setIfInBounds_toArray, List.set_cons_zero, List.set_cons_succ]
              refine take 4 _ rfl (by kernel_rfl) (by kernel_rfl) (by kernel_rfl) (fun _ _ _ h => h) (by rfl) hS (by intro w _; go_simp; with_reducible rfl) ?_
              try simp only [Act.put, List.setIfInBounds_toArray, List.set_cons_zero, List.set_cons_succ]
              refine take 6 _ rfl (by kernel_rfl) (by kernel_rfl) (by kernel_rfl) (fun _ _ _ h => h) (by rfl) hS (by intro w _; go_simp; with_reducible rfl) ?_
              try simp only [Act.put, List.setIfInBounds_toArray, List.set_cons_zero, List.set_cons_succ]
              have hrow := HO2.out.rows o ho17
              have hfw := HI1.out.few o
              refine ready_two 5 7 rfl rfl (by kernel_rfl) (by rfl) (by rfl) ?_ ?_
              · intro K hK
                have c5 : w2.drew.cell? ⟨gp, o, none⟩ = some (putV P S o) := by
                  have := (show Whole w2.drew gp _ _ from HO2.out.put).cell o
                  rw [List.getElem?_toArray, cells17_get _ ho17] at this
                  exact this
                go_simp
                refine hK.out _ _ hS ?_
                clear hK K c5
                try simp only [Act.put, List.setIfInBounds_toArray, List.set_cons_zero, List.set_cons_succ]
                refine alone 7 rfl (by kernel_rfl) (by rfl) ?_
                intro K hK
                go_simp
                have hS1 := Whole.alloc hS (.cells #[.int .u64 (kn : Nat)] 27)
                refine hK.out _ _ hS1 ?_
                clear hK K
                try simp only [Act.put, List.setIfInBounds_toArray, List.set_cons_zero, List.set_cons_succ]
                refine alone 8 rfl (by kernel_rfl) (by rfl) ?_
                intro K hK
                refine wp_cat (W := w2.drew.alloc (.cells #[.int .u64 (kn : Nat)] 27)) _ _ 52 27 (.int .u64 0) 8 Try.underlying52 u64_infoN rfl rfl rfl (World.ownsRow.alloc (show w2.drew.ownsRow w.heap.size 27 1 (.slice (S o).1 (P o).length (S o).2) (P o).length (numsL (P o)) from hrow) _) (Below.refl _ _) (Nat.le_trans HO2.out.bel.size (by simp)) ⟨w2.heap.size, 0, none⟩ 1 1 rfl [.int .u64 (kn : Nat)] rfl (cell_one_new w2.drew _ _) (by intro u hu; simp at hu; subst hu; rfl) (by omega) (by omega) ?_
                intro A' c' w3 hown hbel hbs hgr hat
                have hgr2 : w2.grownBy w3 (putV P S o).ownBlock := (World.grownBy_alloc w2 (.cells #[.int .u64 (kn : Nat)] 27) (putV P S o).ownBlock).trans ⟨hgr.os, hgr.tape, hgr.output, hgr.size, hgr.block⟩
                have hoff : ∀ i, i < w2.heap.size → (putV P S o).ownBlock ≠ some i → (Value.slice A' ((P o).length + 1) c').ownBlock ≠ some i := fun i hi h1 h2 => by
                  rcases hat with h3 | h3
                  · rw [h3] at h2
                    exact h1 h2
                  · rw [h3] at h2
                    injection h2 with h2
                    simp at h2
                    omega
                have HPU := Lib.hid (HO2.out.push ho17 (v := kn) hown hgr2 hoff)
                have hst : ∀ {i : Nat} {u : TypeId} {cs : Array Value}, Whole w2 i u cs → u ≠ 27 → Whole w3 i u cs := fun {i u cs} e hu => (hgr2.block i e.lt (fun h => by
                  rcases hrow.2 with ⟨h0, _⟩ | ⟨g', cap, cur, hv, _, hh, _⟩
                  · rw [h0] at h; cases h
                  · rw [hv] at h
                    injection h with h
                    simp at h
                    subst h
                    exact hu (whole_type e hh))).trans e
                have hS3 := hst HP2.out (by decide)
                have hgp3 := hst HO2.out.put (by decide)
                refine hK.out _ _ hS3 ?_
                clear hK K hown hbel hbs hgr hat hgr2 hoff hst
                try simp only [Act.put, List.setIfInBounds_toArray, List.set_cons_zero, List.set_cons_succ]
                refine alone_run 9 _ rfl (by kernel_rfl) (by rfl) hS3 (by go_simp; try with_reducible rfl) ?_
                try simp only [Act.put, List.setIfInBounds_toArray, List.set_cons_zero, List.set_cons_succ]
                have f10 : w3.frozen? ⟨gp, o, none⟩ = false := hgp3.free o
                have c10 : w3.cell? ⟨gp, o, none⟩ = some (putV P S o) := by
                  have := hgp3.cell o
                  rw [List.getElem?_toArray, cells17_get _ ho17] at this
                  exact this
                clear hgp3
                refine alone 10 rfl (by kernel_rfl) (by rfl) ?_
                intro K hK
                go_simp
                refine hK.out _ _ (Whole.far hS3 (by show p ≠ gp; exact hpgp) _) ?_
                clear hK K
                try simp only [Act.put]
                refine region_end (by kernel_rfl) ?_
                refine cut_post (F := Exit.then _ _) (fun Z => OrW w g b kn gp gl (upd Y (o : Int) (pushP (Y (o : Int)) ⟨kn, qm, qf⟩)) (t + if (Y (o : Int)).length = 8 then 1 else 0) (updN P o (P o ++ [kn])) (updN S o (A', c')) l Z) HPU.out ?_
                clear hS3 f10 c10 HPU HO2 HP2 hS1
                intro Z hZ
                have HZ := Lib.hid hZ
                clear hZ
                have HI2 := Lib.hid (show Inv (upd Y (o : Int) (pushP (Y (o : Int)) ⟨kn, qm, qf⟩)) (updN P o (P o ++ [kn])) l kn from by
                  rw [← hkn]
                  refine ⟨fun o' h1 h2 => ?_, fun o' => ?_⟩
                  · by_cases e : o' = o
                    · subst e
                      rw [upd_same, updN_same]
                      exact (HI1.out.ord o' h1 h2).put _ rfl
                    · rw [upd_other _ _ (by omega), updN_other _ _ e]
                      exact (HI1.out.ord o' h1 h2).more (Nat.le_succ _)
                  · by_cases e : o' = o
                    · subst e
                      rw [updN_same, List.length_append]
                      exact Nat.succ_le_succ (HI1.out.few o')
                    · rw [updN_other _ _ e]
                      exact Nat.le_succ_of_le (HI1.out.few o'))
                go_wp2_with fail
                go_round
                case rel => exact ⟨kn, _, _, _, _, l, k + 1, by omega, by go_num, by omega, HZ.out, HI2.out⟩
                case measure => simp [intOf]; omega
              · intro K hK
                go_simp
                have hS1 := Whole.alloc hS (.cells #[.int .u64 (kn : Nat)] 27)
                refine hK.out _ _ hS1 ?_
                clear hK K
                try simp only [Act.put, List.setIfInBounds_toArray, List.set_cons_zero, List.set_cons_succ]
                have c5 : (w2.drew.alloc (.cells #[.int .u64 (kn : Nat)] 27)).cell? ⟨gp, o, none⟩ = some (putV P S o) := by
                  have := (Whole.alloc (show Whole w2.drew gp _ _ from HO2.out.put) (.cells #[.int .u64 (kn : Nat)] 27)).cell o
                  rw [List.getElem?_toArray, cells17_get _ ho17] at this
                  exact this
                obtain ⟨Va, hVa⟩ : ∃ Va, (w2.alloc (.cells #[.int .u64 (kn : Nat)] 27)).drew = Va := ⟨_, rfl⟩
                have hS1 : Whole (w2.alloc (.cells #[.int .u64 (kn : Nat)] 27)).drew p 32 (opL ⟨0, (o : Int), qA, qm, qc, qf⟩).toArray := hS1
                have c5 : (w2.alloc (.cells #[.int .u64 (kn : Nat)] 27)).drew.cell? ⟨gp, o, none⟩ = some (putV P S o) := c5
                rw [hVa] at hS1 c5 ⊢
                refine alone 5 rfl (by kernel_rfl) (by rfl) ?_
                intro K hK
                go_simp
                refine hK.out _ _ hS1 ?_
                clear hK K c5
                try simp only [Act.put, List.setIfInBounds_toArray, List.set_cons_zero, List.set_cons_succ]
                subst hVa
                refine alone 8 rfl (by kernel_rfl) (by rfl) ?_
                intro K hK
                refine wp_cat (W := w2.drew.alloc (.cells #[.int .u64 (kn : Nat)] 27)) _ _ 52 27 (.int .u64 0) 8 Try.underlying52 u64_infoN rfl rfl rfl (World.ownsRow.alloc (show w2.drew.ownsRow w.heap.size 27 1 (.slice (S o).1 (P o).length (S o).2) (P o).length (numsL (P o)) from hrow) _) (Below.refl _ _) (Nat.le_trans HO2.out.bel.size (by simp)) ⟨w2.heap.size, 0, none⟩ 1 1 rfl [.int .u64 (kn : Nat)] rfl (cell_one_new w2.drew _ _) (by intro u hu; simp at hu; subst hu; rfl) (by omega) (by omega) ?_
                intro A' c' w3 hown hbel hbs hgr hat
                have hgr2 : w2.grownBy w3 (putV P S o).ownBlock := (World.grownBy_alloc w2 (.cells #[.int .u64 (kn : Nat)] 27) (putV P S o).ownBlock).trans ⟨hgr.os, hgr.tape, hgr.output, hgr.size, hgr.block⟩
                have hoff : ∀ i, i < w2.heap.size → (putV P S o).ownBlock ≠ some i → (Value.slice A' ((P o).length + 1) c').ownBlock ≠ some i := fun i hi h1 h2 => by
                  rcases hat with h3 | h3
                  · rw [h3] at h2
                    exact h1 h2
                  · rw [h3] at h2
                    injection h2 with h2
                    simp at h2
                    omega
                have HPU := Lib.hid (HO2.out.push ho17 (v := kn) hown hgr2 hoff)
                have hst : ∀ {i : Nat} {u : TypeId} {cs : Array Value}, Whole w2 i u cs → u ≠ 27 → Whole w3 i u cs := fun {i u cs} e hu => (hgr2.block i e.lt (fun h => by
                  rcases hrow.2 with ⟨h0, _⟩ | ⟨g', cap, cur, hv, _, hh, _⟩
                  · rw [h0] at h; cases h
                  · rw [hv] at h
                    injection h with h
                    simp at h
                    subst h
                    exact hu (whole_type e hh))).trans e
                have hS3 := hst HP2.out (by decide)
                have hgp3 := hst HO2.out.put (by decide)
                refine hK.out _ _ hS3 ?_
                clear hK K hown hbel hbs hgr hat hgr2 hoff hst
                try simp only [Act.put, List.setIfInBounds_toArray, List.set_cons_zero, List.set_cons_succ]
                refine alone_run 9 _ rfl (by kernel_rfl) (by rfl) hS3 (by go_simp; try with_reducible rfl) ?_
                try simp only [Act.put, List.setIfInBounds_toArray, List.set_cons_zero, List.set_cons_succ]
                have f10 : w3.frozen? ⟨gp, o, none⟩ = false := hgp3.free o
                have c10 : w3.cell? ⟨gp, o, none⟩ = some (putV P S o) := by
                  have := hgp3.cell o
                  rw [List.getElem?_toArray, cells17_get _ ho17] at this
                  exact this
                clear hgp3
                refine alone 10 rfl (by kernel_rfl) (by rfl) ?_
                intro K hK
                go_simp
                refine hK.out _ _ (Whole.far hS3 (by show p ≠ gp; exact hpgp) _) ?_
                clear hK K
                try simp only [Act.put]
                refine region_end (by kernel_rfl) ?_
                refine cut_post (F := Exit.then _ _) (fun Z => OrW w g b kn gp gl (upd Y (o : Int) (pushP (Y (o : Int)) ⟨kn, qm, qf⟩)) (t + if (Y (o : Int)).length = 8 then 1 else 0) (updN P o (P o ++ [kn])) (updN S o (A', c')) l Z) HPU.out ?_
                clear hS3 f10 c10 HPU HO2 HP2 hS1
                intro Z hZ
                have HZ := Lib.hid hZ
                clear hZ
                have HI2 := Lib.hid (show Inv (upd Y (o : Int) (pushP (Y (o : Int)) ⟨kn, qm, qf⟩)) (updN P o (P o ++ [kn])) l kn from by
                  rw [← hkn]
                  refine ⟨fun o' h1 h2 => ?_, fun o' => ?_⟩
                  · by_cases e : o' = o
                    · subst e
                      rw [upd_same, updN_same]
                      exact (HI1.out.ord o' h1 h2).put _ rfl
                    · rw [upd_other _ _ (by omega), updN_other _ _ e]
                      exact (HI1.out.ord o' h1 h2).more (Nat.le_succ _)
                  · by_cases e : o' = o
                    · subst e
                      rw [updN_same, List.length_append]
                      exact Nat.succ_le_succ (HI1.out.few o')
                    · rw [updN_other _ _ e]
                      exact Nat.le_succ_of_le (HI1.out.few o'))
                go_wp2_with fail
                go_round
                case rel => exact ⟨kn, _, _, _, _, l, k + 1, by omega, by go_num, by omega, HZ.out, HI2.out⟩
                case measure => simp [intOf]; omega
        · have e0 : (qk == 0) = false := by rw [beq_eq_false_iff_ne]; exact h0
          have e0' : (qk = 0) = False := eq_false h0
          rcases hY : Y qo with _ | ⟨x, L⟩
          · have HC := Lib.hid (take_none HS.out.or.yw qo hqo hY)
            obtain ⟨Z, hZ⟩ : ∃ Z, zeroP.toArray = Z := ⟨_, rfl⟩
            have HZS := Lib.hid (show Z.size = 2 by rw [← hZ]; rfl)
            have HZO := Lib.hid (show Z.all (·.oneCell') = true by rw [← hZ]; simp [zeroP, Value.oneCell'])
            rw [hZ] at HC
            clear hZ
            go_wp2_with fail
            refine HC.out.mono ?_
            rintro e w2 ⟨rfl, hb2⟩
            have HCT := Lib.hid (HS.out.or.below (below_trans hb2 (below_var w2 #[.int .u64 0, .slice none 0 0] Z 46)))
            clear hb2 HC
            go_wp2_with (refine wpList_store_row rfl 46 (.tmp 11) (.tmp 73) rfl w2.heap.size Z rfl rfl 46 _ (Whole.new _ _ _) (by rw [HZS.out]; kernel_rfl) (by rw [HZS.out]; rfl) HZO.out ?_)
            go_round
            case rel => exact ⟨n, t, Y, P, S, l, k + 1, by omega, by go_num, by omega, HCT.out, HI1.out⟩
            case measure => simp [intOf]; omega
          · have hdom := HS.out.or.yw.dom (o := qo) (by rw [hY]; simp)
            obtain ⟨o, rfl⟩ : ∃ o : Nat, qo = (o : Int) := ⟨qo.toNat, by omega⟩
            have ho1 : 1 ≤ o := by omega
            have ho2 : o ≤ 16 := by omega
            have ho17 : o < 17 := by omega
            have HC := Lib.hid (take_some HS.out.or.yw (o : Int) hqo x L hY)
            go_wp2_with fail
            refine HC.out.mono ?_
            rintro e w2 ⟨a, rfl, -, hy2, hky⟩
            have hop2 := hky.whole HS.out.op (by decide) (by decide)
            have HO2 := Lib.hid (HS.out.or.call hky hy2 htn)
            have HP2 := Lib.hid hop2
            have hord := HI1.out.ord o ho1 ho2
            rw [hY] at hord
            obtain ⟨ht1, ht2, ht3⟩ := hord.take
            have HT1 := Lib.hid ht1
            have HT2 := Lib.hid ht2
            obtain ⟨v, hv⟩ : ∃ v, x.num = v := ⟨_, rfl⟩
            rw [hv] at HT1 HT2 ht3
            have hZ : (pkL a x).toArray = #[.int .u64 (v : Nat), .slice (some ⟨a, 0, none⟩) x.len x.len] := by rw [← hv]; rfl
            obtain ⟨Z, hZ2⟩ : ∃ Z, (pkL a x).toArray = Z := ⟨_, rfl⟩
            have HZS := Lib.hid (show Z.size = 2 by rw [← hZ2]; rfl)
            have HZO := Lib.hid (show Z.all (·.oneCell') = true by rw [← hZ2]; exact pk_one a x)
            have HZ := Lib.hid (hZ2.symm.trans hZ)
            unfold pkV
            rw [hZ2]
            clear hy2 hky hop2 HC HS hord ht1 ht2 hv hZ hZ2 c0 c1 c2
            go_upto_region 18 with (refine wpList_store_row rfl 46 (.tmp 11) (.tmp 73) rfl w2.heap.size Z rfl rfl 46 _ (Whole.new _ _ _) (by rw [HZS.out]; kernel_rfl) (by rw [HZS.out]; rfl) HZO.out ?_)
            refine cut_world (fun X => Inn w g b n gp gl (upd Y (o : Int) L) t P S l p ⟨qk, (o : Int), qA, qm, qc, qf⟩ w2.heap.size v a x X) (by
              have hb := below_var w2 #[.int .u64 0, .slice none 0 0] Z 46
              refine ⟨HO2.out.below hb, HP2.out.below hb HP2.out.lt, ?_⟩
              rw [← HZ.out]
              exact setRow_heap _ _ _ Z _ _ (Whole.new w2 46 #[.int .u64 0, .slice none 0 0])) ?_
            generalize w2.heap.size = r
            clear HO2 HP2 HZS HZO HZ
            clear w2
            intro X2 hX2
            have HW := Lib.hid hX2
            clear hX2
            obtain ⟨len, hlen⟩ : ∃ len, (P o).length = len := ⟨_, rfl⟩
            have HLEN := Lib.hid hlen
            have hfl : len ≤ 200 := by have := HI1.out.few o; omega
            have hlo1 : (1 : Int) ≤ (o : Int) := by omega
            have hhi1 : (o : Int) ≤ 16 := by omega
            have ho17' : (o : Int) < 17 := by omega
            clear hlen
            go_wp2_with fail
            go_loopw [13, 14] (fun s j X => ∃ j0 : Nat, j0 ≤ len ∧ j = .int .i64 j0 ∧ s = .bool (decide (v ∈ (P o).take j0)) ∧ Inn w g b n gp gl (upd Y (o : Int) L) t P S l p ⟨qk, (o : Int), qA, qm, qc, qf⟩ r v a x X) (fun _ j _ => len - (intOf j).toNat)
            case atStart => exact ⟨0, Nat.zero_le _, rfl, by simp, HW.out⟩
            case round =>
              obtain ⟨j, hj, rfl, rfl, hin⟩ := hrel
              have HN := Lib.hid hin
              have CO := Lib.hid (fun X (h : Inn w g b n gp gl (upd Y (o : Int) L) t P S l p ⟨qk, (o : Int), qA, qm, qc, qf⟩ r v a x X) => h.own)
              have CN := Lib.hid (fun X (h : Inn w g b n gp gl (upd Y (o : Int) L) t P S l p ⟨qk, (o : Int), qA, qm, qc, qf⟩ r v a x X) => h.num)
              have CP := Lib.hid (fun X (h : Inn w g b n gp gl (upd Y (o : Int) L) t P S l p ⟨qk, (o : Int), qA, qm, qc, qf⟩ r v a x X) => h.putc ho17 HLEN.out)
              have CL := Lib.hid (fun X (h : Inn w g b n gp gl (upd Y (o : Int) L) t P S l p ⟨qk, (o : Int), qA, qm, qc, qf⟩ r v a x X) => h.lastc ho17)
              have c1 := CO.out wr hin
              have c5 := CP.out wr hin
              clear hin HW
              by_cases hjl : j < len
              · have hjl' : (j : Int) < (len : Int) := by omega
                obtain ⟨y, hy⟩ : ∃ y, (P o)[j]? = some y := ⟨_, List.getElem?_eq_getElem (by rw [HLEN.out]; exact hjl)⟩
                obtain ⟨bk, hbk⟩ := HN.out.block ho17 HLEN.out (by omega)
                have CR := Lib.hid (fun X (h : Inn w g b n gp gl (upd Y (o : Int) L) t P S l p ⟨qk, (o : Int), qA, qm, qc, qf⟩ r v a x X) => h.rowc ho17 HLEN.out hbk hjl hy)
                have hmt : (v ∈ (P o).take (j + 1)) ↔ (v ∈ (P o).take j ∨ y = v) := by
                  rw [List.take_add_one, hy]
                  simp [eq_comm]
                have HMT := Lib.hid hmt
                clear hmt hy
                rw [hbk] at c5
                have CP2 := Lib.hid (fun X (h : Inn w g b n gp gl (upd Y (o : Int) L) t P S l p ⟨qk, (o : Int), qA, qm, qc, qf⟩ r v a x X) => (hbk ▸ CP.out X h : X.cell? ⟨gp, o, none⟩ = some (.slice (some ⟨bk, 0, none⟩) len (S o).2)))
                clear hbk
                obtain ⟨s, hs⟩ : ∃ s, decide (v ∈ (P o).take j) = s := ⟨_, rfl⟩
                rw [hs]
                have hwj : IntKind.i64.wrap ((j : Int) + 1) = (j : Int) + 1 := by rw [IntKind.wrap_i64]; omega
                go_upto_region 22 with fail
                clear c1 c5
                cases s
                · by_cases hyv : y = v
                  · have hyv' : ((y : Int) == (v : Int)) = true := by rw [beq_iff_eq]; omega
                    have hyv2 : ((y : Int) = (v : Int)) = True := eq_true (by omega)
                    have HM2 := Lib.hid (show decide (v ∈ (P o).take (j + 1)) = true from decide_eq_true (HMT.out.2 (.inr hyv)))
                    refine region_class (C := fun X => Inn w g b n gp gl (upd Y (o : Int) L) t P S l p ⟨qk, (o : Int), qA, qm, qc, qf⟩ r v a x X) (by kernel_rfl) (by kernel_rfl) (HN.out.below (below_drewN (Below.refl _ _) 1)) ?_
                    refine Ops.wq_in ?_
                    refine Ops.wq_take _ (by rfl) (fun X hx => by go_simp; try with_reducible rfl) ?_
                    try simp only [Act.put, List.setIfInBounds_toArray, List.set_cons_zero, List.set_cons_succ]
                    refine Ops.wq_take _ (by rfl) (fun X hx => by go_simp; try with_reducible rfl) ?_
                    try simp only [Act.put, List.setIfInBounds_toArray, List.set_cons_zero, List.set_cons_succ]
                    refine Ops.wq_take _ (by rfl) (fun X hx => by go_simp; try with_reducible rfl) ?_
                    try simp only [Act.put, List.setIfInBounds_toArray, List.set_cons_zero, List.set_cons_succ]
                    refine Ops.wq_take _ (by rfl) (fun X hx => by have cl := CO.out X hx; go_simp; try with_reducible rfl) ?_
                    try simp only [Act.put, List.setIfInBounds_toArray, List.set_cons_zero, List.set_cons_succ]
                    refine Ops.wq_take _ (by rfl) (fun X hx => by go_simp; try with_reducible rfl) ?_
                    try simp only [Act.put, List.setIfInBounds_toArray, List.set_cons_zero, List.set_cons_succ]
                    refine Ops.wq_take _ (by rfl) (fun X hx => by have cl := CP2.out X hx; go_simp; try with_reducible rfl) ?_
                    try simp only [Act.put, List.setIfInBounds_toArray, List.set_cons_zero, List.set_cons_succ]
                    refine Ops.wq_take _ (by rfl) (fun X hx => by go_simp; try with_reducible rfl) ?_
                    try simp only [Act.put, List.setIfInBounds_toArray, List.set_cons_zero, List.set_cons_succ]
                    refine Ops.wq_take _ (by rfl) (fun X hx => by go_simp; try with_reducible rfl) ?_
                    try simp only [Act.put, List.setIfInBounds_toArray, List.set_cons_zero, List.set_cons_succ]
                    refine Ops.wq_take _ (by rfl) (fun X hx => by have cl := CR.out X hx; go_simp; try with_reducible rfl) ?_
                    try simp only [Act.put, List.setIfInBounds_toArray, List.set_cons_zero, List.set_cons_succ]
                    refine Ops.wq_take _ (by rfl) (fun X hx => by go_simp; try with_reducible rfl) ?_
                    try simp only [Act.put, List.setIfInBounds_toArray, List.set_cons_zero, List.set_cons_succ]
                    refine Ops.wq_take _ (by rfl) (fun X hx => by have cl := CN.out X hx; go_simp; try with_reducible rfl) ?_
                    try simp only [Act.put, List.setIfInBounds_toArray, List.set_cons_zero, List.set_cons_succ]
                    refine Ops.wq_take _ (by rfl) (fun X hx => by go_simp; try with_reducible rfl) ?_
                    try simp only [Act.put, List.setIfInBounds_toArray, List.set_cons_zero, List.set_cons_succ]
                    refine Ops.wq_take _ (by rfl) (fun X hx => by go_simp; try with_reducible rfl) ?_
                    try simp only [Act.put, List.setIfInBounds_toArray, List.set_cons_zero, List.set_cons_succ]
                    refine Ops.wq_take _ (by rfl) (fun X hx => by go_simp; try with_reducible rfl) ?_
                    try simp only [Act.put, List.setIfInBounds_toArray, List.set_cons_zero, List.set_cons_succ]
                    refine Ops.wq_end ?_
                    intro X4 h4
                    have H4 := Lib.hid h4
                    clear h4
                    go_wp2_with fail
                    go_round
                    case rel => exact ⟨j + 1, by omega, by go_num, by rw [HM2.out], H4.out⟩
                    case measure => simp [intOf]; omega
                  · have hyv' : ((y : Int) == (v : Int)) = false := by rw [beq_eq_false_iff_ne]; omega
                    have hyv2 : ((y : Int) = (v : Int)) = False := eq_false (by omega)
                    have HM2 := Lib.hid (show decide (v ∈ (P o).take (j + 1)) = false from decide_eq_false (fun h => (HMT.out.1 h).elim (of_decide_eq_false hs) hyv))
                    refine region_class (C := fun X => Inn w g b n gp gl (upd Y (o : Int) L) t P S l p ⟨qk, (o : Int), qA, qm, qc, qf⟩ r v a x X) (by kernel_rfl) (by kernel_rfl) (HN.out.below (below_drewN (Below.refl _ _) 1)) ?_
                    refine Ops.wq_in ?_
                    refine Ops.wq_take _ (by rfl) (fun X hx => by go_simp; try with_reducible rfl) ?_
                    try simp only [Act.put, List.setIfInBounds_toArray, List.set_cons_zero, List.set_cons_succ]
                    refine Ops.wq_take _ (by rfl) (fun X hx => by go_simp; try with_reducible rfl) ?_
                    try simp only [Act.put, List.setIfInBounds_toArray, List.set_cons_zero, List.set_cons_succ]
                    refine Ops.wq_take _ (by rfl) (fun X hx => by go_simp; try with_reducible rfl) ?_
                    try simp only [Act.put, List.setIfInBounds_toArray, List.set_cons_zero, List.set_cons_succ]
                    refine Ops.wq_take _ (by rfl) (fun X hx => by have cl := CO.out X hx; go_simp; try with_reducible rfl) ?_
                    try simp only [Act.put, List.setIfInBounds_toArray, List.set_cons_zero, List.set_cons_succ]
                    refine Ops.wq_take _ (by rfl) (fun X hx => by go_simp; try with_reducible rfl) ?_
                    try simp only [Act.put, List.setIfInBounds_toArray, List.set_cons_zero, List.set_cons_succ]
                    refine Ops.wq_take _ (by rfl) (fun X hx => by have cl := CP2.out X hx; go_simp; try with_reducible rfl) ?_
                    try simp only [Act.put, List.setIfInBounds_toArray, List.set_cons_zero, List.set_cons_succ]
                    refine Ops.wq_take _ (by rfl) (fun X hx => by go_simp; try with_reducible rfl) ?_
                    try simp only [Act.put, List.setIfInBounds_toArray, List.set_cons_zero, List.set_cons_succ]
                    refine Ops.wq_take _ (by rfl) (fun X hx => by go_simp; try with_reducible rfl) ?_
                    try simp only [Act.put, List.setIfInBounds_toArray, List.set_cons_zero, List.set_cons_succ]
                    refine Ops.wq_take _ (by rfl) (fun X hx => by have cl := CR.out X hx; go_simp; try with_reducible rfl) ?_
                    try simp only [Act.put, List.setIfInBounds_toArray, List.set_cons_zero, List.set_cons_succ]
                    refine Ops.wq_take _ (by rfl) (fun X hx => by go_simp; try with_reducible rfl) ?_
                    try simp only [Act.put, List.setIfInBounds_toArray, List.set_cons_zero, List.set_cons_succ]
                    refine Ops.wq_take _ (by rfl) (fun X hx => by have cl := CN.out X hx; go_simp; try with_reducible rfl) ?_
                    try simp only [Act.put, List.setIfInBounds_toArray, List.set_cons_zero, List.set_cons_succ]
                    refine Ops.wq_take _ (by rfl) (fun X hx => by go_simp; try with_reducible rfl) ?_
                    try simp only [Act.put, List.setIfInBounds_toArray, List.set_cons_zero, List.set_cons_succ]
                    refine Ops.wq_take _ (by rfl) (fun X hx => by go_simp; try with_reducible rfl) ?_
                    try simp only [Act.put, List.setIfInBounds_toArray, List.set_cons_zero, List.set_cons_succ]
                    refine Ops.wq_take _ (by rfl) (fun X hx => by go_simp; try with_reducible rfl) ?_
                    try simp only [Act.put, List.setIfInBounds_toArray, List.set_cons_zero, List.set_cons_succ]
                    refine Ops.wq_end ?_
                    intro X4 h4
                    have H4 := Lib.hid h4
                    clear h4
                    go_wp2_with fail
                    go_round
                    case rel => exact ⟨j + 1, by omega, by go_num, by rw [HM2.out], H4.out⟩
                    case measure => simp [intOf]; omega
                · have HM2 := Lib.hid (show decide (v ∈ (P o).take (j + 1)) = true from decide_eq_true (HMT.out.2 (.inl (of_decide_eq_true hs))))
                  refine region_class (C := fun X => Inn w g b n gp gl (upd Y (o : Int) L) t P S l p ⟨qk, (o : Int), qA, qm, qc, qf⟩ r v a x X) (by kernel_rfl) (by kernel_rfl) (HN.out.below (below_drewN (Below.refl _ _) 1)) ?_
                  refine Ops.wq_in ?_
                  refine Ops.wq_take _ (by rfl) (fun X hx => by go_simp; try with_reducible rfl) ?_
                  try simp only [Act.put, List.setIfInBounds_toArray, List.set_cons_zero, List.set_cons_succ]
                  refine Ops.wq_take _ (by rfl) (fun X hx => by go_simp; try with_reducible rfl) ?_
                  try simp only [Act.put, List.setIfInBounds_toArray, List.set_cons_zero, List.set_cons_succ]
                  refine Ops.wq_pass (by rfl) ?_
                  try simp only [Act.put, List.setIfInBounds_toArray, List.set_cons_zero, List.set_cons_succ]
                  refine Ops.wq_pass (by rfl) ?_
                  try simp only [Act.put, List.setIfInBounds_toArray, List.set_cons_zero, List.set_cons_succ]
                  refine Ops.wq_pass (by rfl) ?_
                  try simp only [Act.put, List.setIfInBounds_toArray, List.set_cons_zero, List.set_cons_succ]
                  refine Ops.wq_pass (by rfl) ?_
                  try simp only [Act.put, List.setIfInBounds_toArray, List.set_cons_zero, List.set_cons_succ]
                  refine Ops.wq_pass (by rfl) ?_
                  try simp only [Act.put, List.setIfInBounds_toArray, List.set_cons_zero, List.set_cons_succ]
                  refine Ops.wq_pass (by rfl) ?_
                  try simp only [Act.put, List.setIfInBounds_toArray, List.set_cons_zero, List.set_cons_succ]
                  refine Ops.wq_pass (by rfl) ?_
                  try simp only [Act.put, List.setIfInBounds_toArray, List.set_cons_zero, List.set_cons_succ]
                  refine Ops.wq_pass (by rfl) ?_
                  try simp only [Act.put, List.setIfInBounds_toArray, List.set_cons_zero, List.set_cons_succ]
                  refine Ops.wq_pass (by rfl) ?_
                  try simp only [Act.put, List.setIfInBounds_toArray, List.set_cons_zero, List.set_cons_succ]
                  refine Ops.wq_pass (by rfl) ?_
                  try simp only [Act.put, List.setIfInBounds_toArray, List.set_cons_zero, List.set_cons_succ]
                  refine Ops.wq_take _ (by rfl) (fun X hx => by go_simp; try with_reducible rfl) ?_
                  try simp only [Act.put, List.setIfInBounds_toArray, List.set_cons_zero, List.set_cons_succ]
                  refine Ops.wq_take _ (by rfl) (fun X hx => by go_simp; try with_reducible rfl) ?_
                  try simp only [Act.put, List.setIfInBounds_toArray, List.set_cons_zero, List.set_cons_succ]
                  refine Ops.wq_end ?_
                  intro X4 h4
                  have H4 := Lib.hid h4
                  clear h4
                  go_wp2_with fail
                  go_round
                  case rel => exact ⟨j + 1, by omega, by go_num, by rw [HM2.out], H4.out⟩
                  case measure => simp [intOf]; omega
              · have hjl' : ¬ (j : Int) < (len : Int) := by omega
                obtain rfl : j = len := by omega
                have hmem : decide (v ∈ (P o).take j) = true := by
                  rw [← HLEN.out, List.take_length]
                  exact decide_eq_true HT2.out
                rw [hmem]
                have hlt3 : ((v : Int) ≤ ((l o : Nat) : Int)) = False := eq_false (by omega)
                have hlt4 : decide ((v : Int) ≤ ((l o : Nat) : Int)) = false := decide_eq_false (by omega)
                have CO' := CO
                have CL' := CL
                obtain ⟨lo, hlo3⟩ : ∃ lo, l o = lo := ⟨_, rfl⟩
                have HLO := Lib.hid hlo3
                rw [hlo3] at hlt3 hlt4 CL
                clear hmem hlo3 ht3
                go_upto_region 23 with fail
                clear c1 c5
                refine region_class (C := fun X => Inn w g b n gp gl (upd Y (o : Int) L) t P S l p ⟨qk, (o : Int), qA, qm, qc, qf⟩ r v a x X) (by kernel_rfl) (by kernel_rfl) (HN.out.below (below_drewN (Below.refl _ _) 1)) ?_
                refine Ops.wq_in ?_
                refine Ops.wq_take _ (by rfl) (fun X hx => by go_simp; try with_reducible rfl) ?_
                try simp only [Act.put, List.setIfInBounds_toArray, List.set_cons_zero, List.set_cons_succ]
                refine Ops.wq_take _ (by rfl) (fun X hx => by go_simp; try with_reducible rfl) ?_
                try simp only [Act.put, List.setIfInBounds_toArray, List.set_cons_zero, List.set_cons_succ]
                refine Ops.wq_take _ (by rfl) (fun X hx => by go_simp; try with_reducible rfl) ?_
                try simp only [Act.put, List.setIfInBounds_toArray, List.set_cons_zero, List.set_cons_succ]
                refine Ops.wq_take _ (by rfl) (fun X hx => by go_simp; try with_reducible rfl) ?_
                try simp only [Act.put, List.setIfInBounds_toArray, List.set_cons_zero, List.set_cons_succ]
                refine Ops.wq_take _ (by rfl) (fun X hx => by have cl := CN.out X hx; go_simp; try with_reducible rfl) ?_
                try simp only [Act.put, List.setIfInBounds_toArray, List.set_cons_zero, List.set_cons_succ]
                refine Ops.wq_take _ (by rfl) (fun X hx => by go_simp; try with_reducible rfl) ?_
                try simp only [Act.put, List.setIfInBounds_toArray, List.set_cons_zero, List.set_cons_succ]
                refine Ops.wq_take _ (by rfl) (fun X hx => by have cl := CO.out X hx; go_simp; try with_reducible rfl) ?_
                try simp only [Act.put, List.setIfInBounds_toArray, List.set_cons_zero, List.set_cons_succ]
                refine Ops.wq_take _ (by rfl) (fun X hx => by go_simp; try with_reducible rfl) ?_
                try simp only [Act.put, List.setIfInBounds_toArray, List.set_cons_zero, List.set_cons_succ]
                refine Ops.wq_take _ (by rfl) (fun X hx => by have cl := CL.out X hx; go_simp; try with_reducible rfl) ?_
                try simp only [Act.put, List.setIfInBounds_toArray, List.set_cons_zero, List.set_cons_succ]
                refine Ops.wq_take _ (by rfl) (fun X hx => by go_simp; try with_reducible rfl) ?_
                try simp only [Act.put, List.setIfInBounds_toArray, List.set_cons_zero, List.set_cons_succ]
                refine Ops.wq_take _ (by rfl) (fun X hx => by go_simp; try with_reducible rfl) ?_
                try simp only [Act.put, List.setIfInBounds_toArray, List.set_cons_zero, List.set_cons_succ]
                refine Ops.wq_end ?_
                intro X4 h4
                have H4 := Lib.hid h4
                have c1 := CO.out X4 h4
                have c0 := CN.out X4 h4
                have f4 : X4.frozen? ⟨gl, o, none⟩ = false := h4.or.lst.free o
                have c4 := CL.out X4 h4
                have hn2 : n ≤ k := hnk
                have HI3 := Lib.hid (show Inv (upd Y (o : Int) L) P (updN l o v) n from ⟨fun o' h1 h2 => by
                  by_cases e : o' = o
                  · subst e
                    rw [upd_same, updN_same]
                    exact HT1.out
                  · rw [upd_other _ _ (by omega), updN_other _ _ e]
                    exact HI1.out.ord o' h1 h2, HI1.out.few⟩)
                clear h4
                go_wp2_with fail
                go_round
                case rel => exact ⟨n, t, _, P, S, _, k + 1, by omega, by go_num, by omega, H4.out.or.last o v, HI3.out⟩
                case measure => simp [intOf]; omega
    · have HA := Lib.hid (HAL.out wr)
      have HB := Lib.hid HC1.out.bel
      by_cases hkN : k < N
      · have hkN' : (k : Int) < (N : Int) := by omega
        have hk2' : ¬ (k : Int) < 200 := by omega
        clear hlt HC1
        go_wp2_with fail
        refine HA.out.mono ?_
        rintro e w2 ⟨rfl, hb2⟩
        have HB2 := Lib.hid (HB.out.trans (hb2.mono HB.out.size))
        clear hb2
        go_wp2_with fail
        go_ret
        exact ⟨rfl, HB2.out⟩
      · have hkN' : ¬ (k : Int) < (N : Int) := by omega
        clear hlt HC1
        go_wp2_with fail
        refine HA.out.mono ?_
        rintro e w2 ⟨rfl, hb2⟩
        have HB2 := Lib.hid (HB.out.trans (hb2.mono HB.out.size))
        clear hb2
        go_wp2_with fail
        go_ret
        exact ⟨rfl, HB2.out⟩

theorem walk (A : Option Addr) (n c : Nat) (w : World) (h : Shp.Good w (.list (.obj shOp)) [.slice A n c]) : Calls Try.prog 5 #[.slice A n c] w fun e w' => e = .returned (.bool true) ∧ Below w.heap.size w w' := by
  obtain ⟨_, Q, hQ⟩ := open_ops h
  exact walk0 A n c Q w hQ
end StagedOrder
end Go.Proofs.Ytbmabfnjjflbnaa
