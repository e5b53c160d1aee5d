/- Package limiter: dropIdle, which ranges over the map and deletes. -/
import Derived.Test.YtlccgplgbokgkaaLim
namespace Go.Proofs.Ytlccgplgbokgkaa
namespace Lim
open Go.ChangeShapes Go.WideShapes Go.ChangeAt Go.RowKit Go.Maps
open Num Mem Words Chacha Aead Poly Adr Ops Quiet Stamp

theorem own_tight {w : World} {b n : Nat} {D : DataW Unit} {k : TypeId} (h : w.ownsMap Try.prog k pairR b n D) : w.ownsMap Try.prog k pairR b (Maps.size D) D := by
  obtain ⟨es, clock, hb, F, hs, rfl⟩ := h
  exact ⟨es, clock, hb, F, by rw [Maps.size_eq, length_sorted]; simp, rfl⟩
theorem whole_by {w w' : World} {g b : Nat} {t : TypeId} {cs : Array Value} (h : Whole w g t cs) (hg : w.grownBy w' (some b)) (hne : b ≠ g) : Whole w' g t cs := whole_grown h hg hne

/-- the round's world -/
structure DropW (w : World) (g b r n : Nat) (t : Int) (D0 : DataW Unit) (L : List Bk) (wr : World) : Prop where
  obj : Whole wr g 44 #[.map (some b), .int .i64 t]
  bel : w.grownBy wr (some b)
  rg : ∃ D left cnt, wr.ranges Try.prog 57 pairR b r n D left cnt ∧ Drop D0 L t D left

theorem below_none {w w' : World} (h : Below w.heap.size w w') : w.grownBy w' none := ⟨h.os, h.tape, h.output, h.size, fun i hi _ => h.block i hi⟩
structure DropR (w : World) (g b r n : Nat) (t : Int) (D : DataW Unit) (left : Lit → Bool) (cnt : Nat) (wr : World) : Prop where
  obj : Whole wr g 44 #[.map (some b), .int .i64 t]
  bel : w.grownBy wr (some b)
  rg : wr.ranges Try.prog 57 pairR b r n D left cnt
theorem DropR.below {w : World} {g b r n : Nat} {t : Int} {D : DataW Unit} {left : Lit → Bool} {cnt : Nat} {X Y : World} (h : DropR w g b r n t D left cnt X) (hb : Below X.heap.size X Y) : DropR w g b r n t D left cnt Y :=
  ⟨h.obj.below hb h.obj.lt, h.bel.andThen (below_none hb) (fun j hj => by cases hj), h.rg.kept (below_none hb) (by simp) (by simp)⟩

set_option maxRecDepth 100000 in
set_option maxHeartbeats 2000000 in
theorem drop_any (g b n : Nat) (t : Int) (ht : okT t) (L : List Bk) (D : DataW Unit) (w : World) (hob : Whole w g 44 #[.map (some b), .int .i64 t])
    (hown : w.ownsMap Try.prog 57 pairR b n D) (hag : Ag D L) (hok : ∀ x ∈ L, 0 ≤ x.2.1 ∧ x.2.1 ≤ 250 ∧ okT x.2.2 ∧ x.2.2 ≤ t) :
    Calls Try.prog 20 #[.pointer (some ⟨g, 0, none⟩), .int .i64 t] w fun e w' => e = .returned (.tuple #[]) ∧ w.grownBy w' (some b) ∧ ∃ D', w'.ownsMap Try.prog 57 pairR b n D' ∧ Ag D' (left1000 t L) := by
  have hgb : b ≠ g := by
    intro e
    obtain ⟨es, clock, hb, _⟩ := hown
    have := hob
    unfold Whole at this
    rw [e, this] at hb
    cases hb
  obtain ⟨zs, hz, hzs⟩ : ∃ zs : Array Value, (∀ w, (zeroValue 57).run Try.prog w = .ok (.agg zs) w) ∧ zs.size = 18 := ⟨_, zero_pref, pref_size _ _ _⟩
  have HZS := Lib.hid hzs
  have HT := Lib.hid ht
  have HOK := Lib.hid hok
  have HAG := Lib.hid hag
  have HOWN := Lib.hid hown
  have HOB := Lib.hid hob
  have hc0 : w.cell? ⟨g, 0, none⟩ = some (.map (some b)) := hob.cell 0
  have hgl := hob.lt
  clear hzs ht hok hag hown hob
  go_enter Try.func20, Try.ntmps20
  go_wp2_with (at_range; refine wpList_range_own _ rfl _ 42 rfl 57 64 keyedP Try.underlying42 _ b n D rfl HOWN.out ?_; intro w0 hrg0 hg0 hs0)
  go_frame
  have H0 := Lib.hid (show DropW w g b w.heap.size n t D L w0 from ⟨whole_by HOB.out (hg0.but (some b)) hgb, hg0.but _, D, _, _, hrg0, drop_start D L t⟩)
  clear hrg0 hg0 hs0 hc0 HOB
  go_loopw [11] (fun _ wr => DropW w g b w.heap.size n t D L wr) (fun _ wr => wr.rangeLeft b w.heap.size)
  case atStart => exact H0.out
  case round =>
    have HR := Lib.hid hrel
    clear hrel H0
    obtain ⟨hob, hbel, D1, left, cnt, hrg, hdr⟩ := HR.out
    have HRG := Lib.hid hrg
    have HDR := Lib.hid hdr
    have HOB := Lib.hid hob
    have HBEL := Lib.hid hbel
    clear hob hbel hrg hdr HR
    go_wp2_with (at_next; refine wpList_next_ranges _ rfl _ rfl 57 keyedP pairR (fun x : { cs : Array Value // cs.size = 18 ∧ cs.all (·.oneCell') = true } => .agg x.1) bkV (fun key kl h => key_cells h) (fun v y h => (let ⟨c, hc, _⟩ := pairR_inv h; ⟨c, hc⟩)) b w.heap.size n D1 left cnt rfl HRG.out ?_ ?_)
    · intro _ hl0
      have HL0 := Lib.hid hl0
      clear hl0
      go_wp2_with fail
      go_end0
      exact ⟨rfl, HBEL.out, D1, HRG.out.owns, HDR.out.done HAG.out HL0.out⟩
    · intro cs hcs hcs1 lv la kl yd yp w1 cnt1 hkey hlk hy hat hrg1 hlt hg1 hs1 hen
      have HCS := Lib.hid hcs
      have HCO := Lib.hid (show cs.all (·.oneCell') = true from Array.all_eq_true.2 hcs1)
      have HKEY := Lib.hid hkey
      have hy' : yd = pairD (lv, la) := by
        rw [pairR_mk (lv, la)] at hy
        exact (congrArg Prod.fst (Option.some.inj hy)).symm
      have hlkL : lk L kl = some (lv, la) := by
        have h1 := HDR.out.hl kl hlk
        rw [HAG.out.hs kl] at h1
        obtain ⟨v, hv⟩ := Option.isSome_iff_exists.1 h1
        have h2 : Maps.has D1 kl = true := by rw [HDR.out.hs kl, HDR.out.hl kl hlk, hlk]; rfl
        have h3 := hat (pairD (0, 0))
        rw [HDR.out.at_ kl _ h2, HAG.out.at_ kl v _ hv, hy'] at h3
        rw [hv, pairD_inj h3]
      have HLK := Lib.hid hlkL
      have hcok : 0 ≤ lv ∧ lv ≤ 250 ∧ okT la ∧ la ≤ t := HOK.out _ (lk_some hlkL)
      have hin := lk_left HAG.out.nd t kl
      rw [hlkL, Option.bind_some] at hin
      have HIN := Lib.hid hin
      have HKL := Lib.hid (keyedP.key hkey)
      have HRG1 := Lib.hid hrg1
      have HB1 := Lib.hid hg1
      have HLT := Lib.hid hlt
      have HS1 := Lib.hid hs1
      have HOB1 := Lib.hid (whole_by HOB.out hg1 (by omega))
      clear hkey hy hy' hlkL hin hat hlk hrg1 hlt hg1 hcs hcs1 hs1
      simp only [bkV] at hen ⊢
      obtain ⟨ds, hds⟩ : ∃ ds : Array Value, #[Value.int .i64 lv, Value.int .i64 la] = ds := ⟨_, rfl⟩
      rw [hds] at hen ⊢
      have HDE := Lib.hid hds
      have HDS := Lib.hid (show ds.size = 2 by rw [← hds]; rfl)
      have HDO := Lib.hid (show ds.all (·.oneCell') = true by rw [← hds]; simp [Value.oneCell'])
      clear hds
      go_upto_region 3 with (first | (refine wpList_store_row rfl 57 (.tmp 4) (.tmp 14) rfl w1.heap.size cs rfl rfl 57 _ ((Whole.new _ _ zs).alloc _) (by rw [HCS.out]; kernel_rfl) (by rw [HCS.out, HZS.out]) HCO.out ?_) | (refine wpList_store_row rfl 64 (.tmp 5) (.tmp 15) rfl (w1.heap.size + 1) ds rfl rfl 64 #[.int .i64 0, .int .i64 0] (Whole.farRow (whole_new (w := w1.alloc (.cells zs 57)) 64 #[.int .i64 0, .int .i64 0] (by simp)) (Nat.succ_ne_self _) cs) (by rw [HDS.out]; kernel_rfl) (by rw [HDS.out]; rfl) HDO.out ?_))
      generalize hN : w1.heap.size = N
      refine cut_world (fun X => Whole X N 57 cs ∧ Whole X (N + 1) 64 ds ∧ DropR w g b w.heap.size n t D1 (fun z => left z && !z.sameKey kl) cnt1 X) (by
        subst hN
        have hb2 : Below w1.heap.size w1 ((((w1.alloc (.cells zs 57)).alloc (.cells #[Value.int .i64 0, .int .i64 0] 64)).setRow w1.heap.size cs).setRow (w1.heap.size + 1) ds) :=
          below_setRow (below_setRow (below_alloc (below_alloc (Below.refl _ _) _) _) (Nat.le_refl _) _) (Nat.le_succ _) _
        refine ⟨Whole.farRow (setRow_heap _ _ _ _ _ _ ((Whole.new _ _ zs).alloc _)) (by omega) _, setRow_heap _ _ _ _ _ _ (Whole.farRow (whole_new (w := w1.alloc (.cells zs 57)) 64 #[.int .i64 0, .int .i64 0] (by simp)) (Nat.succ_ne_self _) cs), ?_⟩
        refine DropR.below ⟨HOB1.out, ?_, HRG1.out⟩ hb2
        exact HBEL.out.andThen HB1.out (fun j hj => Or.inl (by injection hj with hj; omega))) ?_
      clear HOB1 HB1 HS1
      rintro X ⟨p1, p2, hX⟩
      have P1 := Lib.hid p1
      have P2 := Lib.hid p2
      have HX := Lib.hid hX
      clear p1 p2 hX hen
      have hsp : spanV la t = t - la := by
        unfold spanV
        rw [if_pos ⟨hcok.2.2.1, HT.out, hcok.2.2.2⟩]
      have CS := Lib.hid (since_any (lv, la) t X)
      rw [show bkV (lv, la) = .agg ds from by unfold bkV; rw [← HDE.out]] at CS
      simp only [hsp] at CS
      clear hsp
      by_cases hid : 1000 ≤ t - la
      · have d1 : decide (1000 ≤ t - la) = true := decide_eq_true hid
        have hnone : (lk (left1000 t L) kl).isSome = false := by rw [HIN.out, if_neg (by show ¬ (t - la < 1000); omega)]; rfl
        have HNO := Lib.hid hnone
        clear hnone
        go_wp2_with (refine wpList_load_row rfl 64 (.tmp 5) rfl (N + 1) rfl 64 ds (0, 0) _ P2.out rfl rfl (by rw [HDS.out]; kernel_rfl) ?_)
        refine CS.out.mono ?_
        rintro e w2 ⟨rfl, hb2⟩
        have P1' := Lib.hid (P1.out.below hb2 P1.out.lt)
        have HX' := Lib.hid (HX.out.below hb2)
        clear hb2 P1 P2 HX CS
        have hc0 : w2.cell? ⟨g, 0, none⟩ = some (.map (some b)) := HX'.out.obj.cell 0
        go_upto_region 4 with fail
        refine wp_region_still_tail 5 (by kernel_rfl) (by kernel_rfl) ?_
        simp only [List.take_succ_cons, List.take_zero, List.drop_succ_cons, List.drop_zero]
        still_step
        still_step
        still_step
        still_step
        refine still_take _ (by rfl) (run_load_in 57 (.tmp 4) rfl N rfl cs 18 HCS.out P1'.out.drew rfl rfl (by kernel_rfl)) ?_
        go_frame
        refine wpStill_nil ?_
        change wpList _ _ _ _ _ w2.drew
        have HRD := Lib.hid (show w2.drew.ranges Try.prog 57 pairR b w.heap.size n D1 (fun z => left z && !z.sameKey kl) cnt1 from HX'.out.rg)
        refine wpList_delete_ranges _ rfl _ _ 42 57 rfl 64 keyedP Try.underlying42 pairR b w.heap.size n D1 _ cnt1 rfl HRD.out (.agg cs) kl rfl HKEY.out ?_
        intro w3 cnt2 hrg2 hle hturn
        rw [Maps.strike_twice] at hrg2
        have HRG2 := Lib.hid hrg2
        have HLE := Lib.hid hle
        have hg3 : w2.grownBy w3 (some b) := by
          have h := hturn.grown
          exact ⟨h.os, h.tape, h.output, h.size, h.block⟩
        have HOB3 := Lib.hid (whole_by HX'.out.obj hg3 hgb)
        have HBEL3 := Lib.hid (HX'.out.bel.andThen hg3 (fun j hj => Or.inr (by rw [← hj])))
        clear hrg2 hle hturn hg3 hc0
        go_frame
        go_wp2_with fail
        go_round
        case rel => exact ⟨HOB3.out, HBEL3.out, _, _, cnt2, HRG2.out, HDR.out.del HKL.out HNO.out⟩
        case measure => rw [HRG2.out.left_eq, HRG.out.left_eq]; exact Nat.lt_of_le_of_lt HLE.out HLT.out
      · have d1 : decide (1000 ≤ t - la) = false := decide_eq_false hid
        have hsome : (lk (left1000 t L) kl).isSome = true := by rw [HIN.out, if_pos (by show (t - la < 1000); omega)]; rfl
        have HSO := Lib.hid hsome
        clear hsome
        go_wp2_with (refine wpList_load_row rfl 64 (.tmp 5) rfl (N + 1) rfl 64 ds (0, 0) _ P2.out rfl rfl (by rw [HDS.out]; kernel_rfl) ?_)
        refine CS.out.mono ?_
        rintro e w2 ⟨rfl, hb2⟩
        have HX' := Lib.hid (HX.out.below hb2)
        clear hb2 P1 P2 HX CS
        go_wp2_with fail
        go_round
        case rel => exact ⟨HX'.out.obj, HX'.out.bel, D1, _, cnt1, HX'.out.rg, HDR.out.keep HKL.out HSO.out⟩
        case measure => rw [HX'.out.rg.left_eq, HRG.out.left_eq]; exact HLT.out
end Lim
end Go.Proofs.Ytlccgplgbokgkaa
