/- Package feed: a watcher's take; Watch; Take. -/
import Derived.Test.YtlbfjdpcnnplnaaFdPut
namespace Go.Proofs.Ytlbfjdpcnnplnaa
namespace Fee
open Go.ChangeShapes Go.WideShapes Go.ChangeAt Go.RowKit Go.Maps
open Num Mem Words Chacha Aead Poly Quiet RowV RowS

theorem Its.take {w : World} {v : Value} {L : List It} (h : Its w v L) : ∃ A, v = .slice A L.length L.length ∧ ∀ n, n ≤ L.length → Its w (.slice A n n) (L.take n) := by
  obtain ⟨A, rfl, h⟩ := h
  refine ⟨A, rfl, fun n hn => ⟨A, by rw [List.length_take, Nat.min_eq_left hn], ?_⟩⟩
  rw [flatI_take]
  exact h.take _
theorem its_drop {w : World} {A : Option Addr} {L : List It} {m : Nat} (h : Its w (.slice A m m) L) (hm : L.length = m) (k : Nat) : Its w (.slice (if m = k then A else Option.map (fun x => x.add (k * 35)) A) (m - k) (m - k)) (L.drop k) := by
  obtain ⟨C, e, hC⟩ := h
  injection e with e1 e2 e3
  subst e1
  refine ⟨_, by rw [List.length_drop, hm], ?_⟩
  rw [flatI_drop]
  by_cases c : m = k
  · exact .inl (by rw [List.drop_eq_nil_iff, flatI_length]; omega)
  · rw [if_neg c]
    rcases hC with hC | ⟨b, off, cs, rfl, hw, hc⟩
    · exact .inl (by rw [hC]; simp)
    · have e : Option.map (fun x : Addr => x.add (k * 35)) (some ⟨b, off, none⟩) = some ⟨b, off + k * 35, none⟩ := by
        rw [Option.map_some]
        congr 1
        unfold Addr.add
        split <;> simp_all
      rw [e]
      exact RdI.drop (.inr ⟨b, off, cs, rfl, hw, hc⟩) _
theorem Its.nil (w : World) (A : Option Addr) : Its w (.slice A 0 0) [] := ⟨A, rfl, .inl rfl⟩
theorem cnt_int (n : Int) (k : Nat) : ((cnt n k : Nat) : Int) = min (max n 0) (k : Int) := by
  unfold cnt
  omega
structure TW (w : World) (r : Nat) (x : Wt) (A A2 : Option Addr) (k m l : Nat) (X : World) : Prop where
  wt : Whole X r 74 #[.slice A2 (m - k) (m - k), .int .u64 (l : Nat)]
  got : Its X (.slice A k k) (x.L.take k)
  left : Its X (.slice A2 (m - k) (m - k)) (x.L.drop k)
  gr : w.grownBy X (some r)
theorem items_cell {w : World} {r : Nat} {cs : Array Value} (h : Whole w r 74 cs) {i : Nat} {v : Value} : ∀ j ds, Whole w j 66 ds → Whole (w.setCell ⟨r, i, none⟩ v) j 66 ds := fun _ _ hw => hw.far (fun e => absurd (whole_type (e ▸ hw) h) (by decide)) v
set_option maxRecDepth 100000 in
theorem wtake_any (r : Nat) (x : Wt) (n : Int) (w : World) (h : WtW w r x) (hf : x.L.length ≤ 16) :
    Calls Try.prog 31 #[.pointer (some ⟨r, 0, none⟩), .int .i64 n] w fun o w' => ∃ z, o = .returned z ∧ Its w' z (takeL x n) ∧ WtW w' r (takeW x n) ∧ w.grownBy w' (some r) := by
  obtain ⟨v, hv, hi⟩ := h
  obtain ⟨A, rfl, hI⟩ := hi.take
  have hk := cnt_le n x.L.length
  have hkn := cnt_int n x.L.length
  obtain ⟨k, hkk⟩ : ∃ k, cnt n x.L.length = k := ⟨_, rfl⟩
  have HK := Lib.hid hkk
  rw [hkk] at hk hkn
  have HI := Lib.hid (show Its w (.slice A k k) (x.L.take k) ∧ Its w (.slice (if x.L.length = k then A else Option.map (fun x => x.add (k * 35)) A) (x.L.length - k) (x.L.length - k)) (x.L.drop k) from ⟨hI k hk, its_drop hi rfl k⟩)
  have HV := Lib.hid hv
  obtain ⟨m, hm⟩ : ∃ m, x.L.length = m := ⟨_, rfl⟩
  have HM := Lib.hid hm
  obtain ⟨l, hl⟩ : ∃ l, x.lost = l := ⟨_, rfl⟩
  have HL := Lib.hid hl
  rw [hm] at hk hkn HI HV hf
  rw [hl] at HV
  have c0 : w.cell? ⟨r, 0, none⟩ = some (.slice A m m) := HV.out.cell 0
  have c1 : w.cell? ⟨r, 1, none⟩ = some (.int .u64 (l : Nat)) := HV.out.cell 1
  have f0 : w.frozen? ⟨r, 0, none⟩ = false := HV.out.free 0
  have f1 : w.frozen? ⟨r, 1, none⟩ = false := HV.out.free 1
  have HKN := Lib.hid hkn
  have hk' : (k : Int) ≤ (m : Int) := by omega
  clear hv hi hI hm hl hkk hkn
  go_enter Try.func31, Try.ntmps31
  go_upto_region 2 with fail
  rw [← HKN.out]
  go_upto_region 4 with fail
  have HD := Lib.hid HI.out.2
  generalize (if m = k then A else Option.map (fun x => x.add (k * 35)) A) = A2 at HD ⊢
  have hg := grown_cell1 w r 0 (.slice A2 (m - k) (m - k))
  refine cut_world (fun X => TW w r x A A2 k m l X) ⟨HV.out.put 0 _, HI.out.1.keep (items_cell HV.out), HD.out.keep (items_cell HV.out), hg⟩ ?_
  clear hg c0 c1 f0 f1 HV HI HD
  intro X hX
  have HX := Lib.hid hX
  have c1 : X.cell? ⟨r, 1, none⟩ = some (.int .u64 (l : Nat)) := hX.wt.cell 1
  have f1 : X.frozen? ⟨r, 1, none⟩ = false := hX.wt.free 1
  clear hX
  have HTA := Lib.hid (show takeL x n = x.L.take k ++ (if (k : Int) < n then gapL l else []) by unfold takeL; rw [HK.out, HL.out])
  have HTB := Lib.hid (show takeW x n = ⟨x.L.drop k, if (k : Int) < n then 0 else l⟩ by unfold takeW; rw [HK.out, HL.out])
  by_cases c : (k : Int) < n ∧ 0 < l
  · obtain ⟨hc1, hc2⟩ := c
    have hd1 : decide ((k : Int) < n) = true := decide_eq_true hc1
    have hd2 : decide ((0 : Int) < (l : Int)) = true := decide_eq_true (by omega)
    have HB := Lib.hid (item_gap l)
    have HR := Lib.hid (row_one ⟨noEv, l⟩)
    obtain ⟨I, hI⟩ : ∃ I, (itL ⟨noEv, l⟩).toArray = I := ⟨_, rfl⟩
    rw [hI] at HB HR
    clear hI
    go_upto_region 5 with fail
    go_wp2_with (first | (refine wpList_built1 rfl 66 1 (.tmp 46) rfl (.int .u64 (l : Nat)) rfl I HB.out ?_) | (refine wpList_rowOne rfl 46 66 (.tmp 47) rfl (.agg I) rfl Try.underlying46 _ HR.out ?_) | (go_at_call 33; fail))
    have hba : Below X.heap.size X (X.alloc (.cells (flatI [⟨noEv, l⟩]).toArray 66)) := below_alloc (Below.refl _ _) _
    refine (behind_any (x.L.take k) [⟨noEv, l⟩] (.slice A k k) _ _ (HX.out.got.below hba) (its_new [⟨noEv, l⟩]) (by simp) (by rw [List.length_take, HM.out, List.length_singleton]; omega)).mono ?_
    rintro o Y ⟨z, rfl, hz, hb⟩
    have HZ := Lib.hid hz
    have HY := Lib.hid ((HX.out.wt.below hba HX.out.wt.lt).below hb (Whole.lt (HX.out.wt.below hba HX.out.wt.lt)))
    have HW := Lib.hid ((HX.out.left.below hba).below hb)
    have HXY := Lib.hid (show X.grownBy Y (some r) from grown_tr (b := X.alloc (.cells (flatI [⟨noEv, l⟩]).toArray 66)) ⟨hba.os, hba.tape, hba.output, hba.size, fun i hi _ => hba.block i hi⟩ ⟨hb.os, hb.tape, hb.output, hb.size, fun i hi _ => hb.block i hi⟩)
    have f1 : Y.frozen? ⟨r, 1, none⟩ = false := HY.out.free 1
    have c1' : Y.cell? ⟨r, 1, none⟩ = some (.int .u64 (l : Nat)) := HY.out.cell 1
    obtain ⟨C, rfl, hC⟩ := hz
    obtain ⟨q, hq⟩ : ∃ q, (x.L.take k ++ ([⟨noEv, l⟩] : List It)).length = q := ⟨_, rfl⟩
    rw [hq] at HZ ⊢
    clear hb hba hC hq
    go_wp2_with fail
    go_ret
    have hg := grown_cell1 Y r 1 (.int .u64 0)
    have e1 : takeL x n = x.L.take k ++ [⟨noEv, l⟩] := by
      rw [HTA.out, if_pos hc1]
      unfold gapL
      rw [if_pos hc2]
    refine ⟨.slice C q q, rfl, ?_, ?_, grown_tr (grown_tr HX.out.gr HXY.out) hg⟩
    · rw [e1]
      exact HZ.out.keep (items_cell HY.out)
    · rw [HTB.out, if_pos hc1]
      exact ⟨_, HY.out.put 1 _, HW.out.keep (items_cell HY.out)⟩
  · have e1 : takeL x n = x.L.take k := by
      rw [HTA.out]
      by_cases c1 : (k : Int) < n
      · unfold gapL
        rw [if_pos c1, if_neg (fun h => c ⟨c1, h⟩), List.append_nil]
      · rw [if_neg c1, List.append_nil]
    have e2 : takeW x n = ⟨x.L.drop k, l⟩ := by
      rw [HTB.out]
      by_cases c1 : (k : Int) < n
      · rw [if_pos c1, show l = 0 from by have := fun h => c ⟨c1, h⟩; omega]
      · rw [if_neg c1]
    have HEE := Lib.hid (show Its X (.slice A k k) (takeL x n) ∧ WtW X r (takeW x n) from ⟨by rw [e1]; exact HX.out.got, by rw [e2]; exact ⟨_, HX.out.wt, HX.out.left⟩⟩)
    have HGR := Lib.hid HX.out.gr
    clear e1 e2 HX HTA HTB HK HL HM HKN
    by_cases hc1 : (k : Int) < n
    · have hd1 : decide ((k : Int) < n) = true := decide_eq_true hc1
      obtain rfl : l = 0 := by have := fun h => c ⟨hc1, h⟩; omega
      clear c
      go_wp2_with fail
      go_ret
      exact ⟨_, rfl, HEE.out.1, HEE.out.2, HGR.out⟩
    · have hd1 : decide ((k : Int) < n) = false := decide_eq_false hc1
      clear c
      go_wp2_with fail
      go_ret
      exact ⟨_, rfl, HEE.out.1, HEE.out.2, HGR.out⟩

/-! ### Watch -/
theorem wp_update {H : Type} {P : Program} {o : Oper} {a : Act} {w : World} {K : Act → World → Prop} {Q : Exit → Act → World → Prop} (m x y : Operand) (t : TypeId) (hop : o.op = Op.mapUpdate t m x y)
    (k e : TypeId) (Kd : Keyed P k) (ht : P.underlying t = some (.map k e)) (R : Value → Option (DataW H × List MemPlace)) (b n : Nat) (D : DataW H) (hm : a.eval m = .map (some b)) (hown : w.ownsMap P k R b n D) (hn : n < maxLen)
    (key val : Value) (kl : Lit) (hx : a.eval x = key) (hy : a.eval y = val) (hkey : keyOf P k key = some kl) (d : DataW H) (ps : List MemPlace) (hv : R val = some (d, ps))
    (h : ∀ w', w'.ownsMap P k R b (n + 1) (D.put kl d) → w.mapTurned w' b → K (a.put o.dst undef) w') : o.wp P a w K Q := by
  obtain ⟨w', hrun, h1, h2⟩ := hown.store Kd ht hn hkey hv
  unfold Oper.wp
  simp [execOp, hop, hm, hx, hy, hrun, Result.andThen]
  exact h w' h1 h2
theorem run_built0 {P : Program} {o : Oper} {a : Act} {w : World} (t : TypeId) (ho : o.op = .build t #[])
    (vs : Array Value) (hb : P.built t [] = some vs) : (execOp a.eval o).run P w = .ok (.value (.agg vs)) w := by
  have e : P.built t ((#[] : Array (Nat × Operand)).map fun (i, x) => (i, a.eval x)).toList = some vs := by simpa using hb
  unfold execOp
  simp only [ho, Sem.run_bind, run_build w t _ vs e, Result.andThen_ok, Sem.run_pure]
theorem watcher_new : Try.prog.built 74 [] = some #[.slice none 0 0, .int .u64 0] := by kernel_rfl
set_option maxRecDepth 100000 in
theorem watch_no {p : Value} {w : World} (h : No w p) : Calls Try.prog 9 #[p] w fun e w' => e = .returned (.tuple #[.int .u64 0, .int .i64 6]) ∧ w = w' := by
  have HN := Lib.hid (none_no h)
  clear h
  go_enter Try.func9, Try.ntmps9
  go_wp2_with fail
  refine HN.out.mono ?_
  rintro e w1 ⟨rfl, rfl⟩
  go_wp2_with fail
  go_ret2
  exact ⟨rfl, rfl⟩
set_option maxRecDepth 100000 in
theorem watch_full {w : World} {F : Nat → Prop} {g last : Nat} {S : St} (h : FW w F g S last) (hS : S.length = 8) : Calls Try.prog 9 #[.pointer (some ⟨g, 0, none⟩)] w fun e w' => e = .returned (.tuple #[.int .u64 0, .int .i64 5]) ∧ w = w' := by
  obtain ⟨b, D, m, h1, h2, h3, h4⟩ := h
  have HN := Lib.hid (none_some g b _ w h1.obj)
  have c0 : w.cell? ⟨g, 0, none⟩ = some (.map (some b)) := h1.obj.cell 0
  have hl := h4.len Try.underlying61
  rw [h3, hS] at hl
  clear h1 h2 h3 h4 hS
  go_enter Try.func9, Try.ntmps9
  go_wp2_with fail
  refine HN.out.mono ?_
  rintro e w1 ⟨rfl, rfl⟩
  go_wp2_with (at_builtin; refine Lib.wpList_len_run _ rfl _ _ _ rfl _ rfl _ _ (hl _) ?_)
  go_ret2
  exact ⟨rfl, rfl⟩
set_option maxRecDepth 100000 in
theorem watch_ok {w : World} {F : Nat → Prop} {g last : Nat} {S : St} (h : FW w F g S last) (hS : S.length < 8) (hlast : last < 1000000000) : Calls Try.prog 9 #[.pointer (some ⟨g, 0, none⟩)] w fun e w' => e = .returned (.tuple #[.int .u64 (last + 1 : Nat), .int .i64 0]) ∧ FW w' (ext F w) g (S ++ [(last + 1, ⟨[], 0⟩)]) (last + 1) ∧ Fk F w w' := by
  obtain ⟨b, D, m, h1, h2, h3, h4⟩ := h
  have HN := Lib.hid (none_some g b _ w h1.obj)
  have c0 : w.cell? ⟨g, 0, none⟩ = some (.map (some b)) := h1.obj.cell 0
  have c1 : w.cell? ⟨g, 1, none⟩ = some (.int .u64 (last : Nat)) := h1.obj.cell 1
  have f1 : w.frozen? ⟨g, 1, none⟩ = false := h1.obj.free 1
  have hl := h4.len Try.underlying61
  rw [h3] at hl
  have H := Lib.hid (show FM w F g b S last m ∧ PAg D m ∧ Maps.size D = S.length ∧ w.ownsMap Try.prog 23 ptrR b last D from ⟨h1, h2, h3, h4⟩)
  obtain ⟨q, hq⟩ : ∃ q, S.length = q := ⟨_, rfl⟩
  rw [hq] at hl hS
  have hne : decide ((q : Int) = 8) = false := decide_eq_false (by omega)
  have hne2 : ((q : Int) == 8) = false := beq_eq_false_iff_ne.2 (by omega)
  have hw1 : IntKind.u64.wrap ((last : Int) + 1) = (last : Int) + 1 := by rw [IntKind.wrap_u64]; omega
  clear h1 h2 h3 h4
  go_enter Try.func9, Try.ntmps9
  go_wp2_with fail
  refine HN.out.mono ?_
  rintro e w1 ⟨rfl, rfl⟩
  go_upto_region 6 with (at_builtin; refine Lib.wpList_len_run _ rfl _ _ _ rfl _ rfl _ _ (hl _) ?_)
  have hg1 := grown_cell1 w g 1 (.int .u64 ((last : Int) + 1))
  obtain ⟨W, hW⟩ : ∃ W, w.setCell ⟨g, 1, none⟩ (.int .u64 ((last : Int) + 1)) = W := ⟨_, rfl⟩
  rw [hW] at hg1 ⊢
  have hob := H.out.1.obj.put 1 (.int .u64 ((last : Int) + 1))
  rw [hW] at hob
  have HOB := Lib.hid (show Whole W g 63 #[.map (some b), .int .u64 (last + 1 : Nat)] from hob)
  have HG1 := Lib.hid hg1
  have HOW := Lib.hid (H.out.2.2.2.kept hg1 (fun e => owns_row H.out.2.2.2 H.out.1.obj (Option.some.inj e).symm))
  have HMX := Lib.hid (show last < maxLen by unfold maxLen; omega)
  have HKY := Lib.hid (key_u (okU_of (a := last + 1) (by omega)))
  have HNW := Lib.hid watcher_new
  have c0 : W.cell? ⟨g, 0, none⟩ = some (.map (some b)) := HOB.out.cell 0
  have c1 : W.cell? ⟨g, 1, none⟩ = some (.int .u64 ((last : Int) + 1)) := HOB.out.cell 1
  have hgl := HOB.out.lt
  clear hob hg1 hl hne hne2 hw1 HN f1
  refine region_drew (fun V => Whole V g 63 #[.map (some b), .int .u64 (last + 1 : Nat)]) (by kernel_rfl) HOB.out (fun hS => ?_)
  refine take 0 _ rfl (by kernel_rfl) (by kernel_rfl) (by kernel_rfl) (fun _ _ _ h => h) (by rfl) hS (by intro w _; go_simp; with_reducible rfl) ?_
  try simp only [Act.put, List.setIfInBounds_toArray, List.set_cons_zero, List.set_cons_succ]
  refine take 1 _ rfl (by kernel_rfl) (by kernel_rfl) (by kernel_rfl) (fun _ _ _ h => h) (by rfl) hS (by intro w _; go_simp; with_reducible rfl) ?_
  try simp only [Act.put, List.setIfInBounds_toArray, List.set_cons_zero, List.set_cons_succ]
  refine take 2 _ rfl (by kernel_rfl) (by kernel_rfl) (by kernel_rfl) (fun _ _ _ h => h) (by rfl) hS (by intro w _; go_simp; with_reducible rfl) ?_
  try simp only [Act.put, List.setIfInBounds_toArray, List.set_cons_zero, List.set_cons_succ]
  refine take 3 _ rfl (by kernel_rfl) (by kernel_rfl) (by kernel_rfl) (fun _ _ _ h => h) (by rfl) hS (by intro w hw; have hcl := hw.cell 0; go_simp; with_reducible rfl) ?_
  try simp only [Act.put, List.setIfInBounds_toArray, List.set_cons_zero, List.set_cons_succ]
  refine take 4 _ rfl (by kernel_rfl) (by kernel_rfl) (by kernel_rfl) (fun _ _ _ h => h) (by rfl) hS (by intro w _; go_simp; with_reducible rfl) ?_
  try simp only [Act.put, List.setIfInBounds_toArray, List.set_cons_zero, List.set_cons_succ]
  refine take 5 _ rfl (by kernel_rfl) (by kernel_rfl) (by kernel_rfl) (fun _ _ _ h => h) (by rfl) hS (by intro w _; go_simp; with_reducible rfl) ?_
  try simp only [Act.put, List.setIfInBounds_toArray, List.set_cons_zero, List.set_cons_succ]
  refine take 6 _ rfl (by kernel_rfl) (by kernel_rfl) (by kernel_rfl) (fun _ _ _ h => h) (by rfl) hS (by intro w _; go_simp; with_reducible rfl) ?_
  try simp only [Act.put, List.setIfInBounds_toArray, List.set_cons_zero, List.set_cons_succ]
  refine take 7 _ rfl (by kernel_rfl) (by kernel_rfl) (by kernel_rfl) (fun _ _ _ h => h) (by rfl) hS (by intro w hw; have hcl := hw.cell 1; go_simp; with_reducible rfl) ?_
  try simp only [Act.put, List.setIfInBounds_toArray, List.set_cons_zero, List.set_cons_succ]
  refine take 8 (.agg #[.slice none 0 0, .int .u64 0]) rfl (by kernel_rfl) (by kernel_rfl) (by kernel_rfl) (fun _ _ _ h => h) (by rfl) hS (fun w hw => run_built0 74 rfl _ HNW.out) ?_
  try simp only [Act.put, List.setIfInBounds_toArray, List.set_cons_zero, List.set_cons_succ]
  refine alone 9 rfl (by kernel_rfl) (by rfl) ?_
  intro K hK
  go_simp
  refine hK.out _ _ (hS.alloc _) ?_
  clear hK K
  try simp only [Act.put, List.setIfInBounds_toArray, List.set_cons_zero, List.set_cons_succ]
  replace hS := hS.alloc (.cells #[.slice none 0 0, .int .u64 0] 74)
  refine alone 10 rfl (by kernel_rfl) (by rfl) ?_
  intro K hK
  refine wp_update (.tmp 24) (.tmp 28) (.tmp 30) 61 rfl 23 72 keyedU Try.underlying61 ptrR b last D rfl (World.ownsMap.alloc (show W.drew.ownsMap Try.prog 23 ptrR b last D from HOW.out) _) HMX.out _ (ptrV (some W.heap.size)) (keyO (last + 1)) rfl rfl HKY.out _ _ (ptrR_mk _) ?_
  intro Z hown hturn
  have hg2 : (W.drew.alloc (.cells #[.slice none 0 0, .int .u64 0] 74)).grownBy Z (some b) := by
    have h := hturn.grown
    exact ⟨h.os, h.tape, h.output, h.size, h.block⟩
  have hkeep : ∀ i t cs, Whole W i t cs → Whole Z i t cs := fun i t cs hw => (hg2.block i (Whole.alloc hw _ : Whole (W.drew.alloc _) i t cs).lt (fun e => by injection e with e; exact owns_row HOW.out hw e)).trans (Whole.alloc hw _ : Whole (W.drew.alloc _) i t cs)
  have hsz : W.heap.size = w.heap.size := by rw [← hW]; simp
  refine hK.out _ _ (hkeep _ _ _ HOB.out) ?_
  have HE := Lib.hid (show FW Z (ext F w) g (S ++ [(last + 1, ⟨[], 0⟩)]) (last + 1) ∧ Fk F w Z from by
    have hn : Whole Z W.heap.size 74 #[.slice none 0 0, .int .u64 0] := by
      have h0 : Whole (W.drew.alloc (.cells #[.slice none 0 0, .int .u64 0] 74)) W.heap.size 74 #[.slice none 0 0, .int .u64 0] := Whole.new _ _ _
      exact (hg2.block _ h0.lt (fun e => by injection e with e; have := HOW.out.lt; omega)).trans h0
    have hg1' : ∀ i t cs, (∃ (ne : i ≠ g), Whole w i t cs) → Whole W i t cs := fun i t cs ⟨ne, hw⟩ => (HG1.out.block i hw.lt (fun e => ne (by injection e with e))).trans hw
    obtain ⟨h1, h2, h3, h4⟩ := H.out
    have hni : last + 1 ∉ ids S := fun c => by have := (h1.low _ c).2; omega
    have hng : ∀ i t cs, Whole w i t cs → t ≠ 63 → Whole Z i t cs := fun i t cs hw ht => hkeep _ _ _ (hg1' _ _ _ ⟨fun e => ht (whole_type (e ▸ hw) h1.obj), hw⟩)
    refine ⟨⟨b, _, upd m (last + 1) (some W.heap.size), ⟨hkeep _ _ _ HOB.out, fun id x hx => ?_, fun id r e => ?_, fun i j r e1 e2 => ?_, ?_, fun id hid => ?_, fun p hp => ?_, .inl h1.fg, .inl h1.fb, fun i r e => ?_⟩, h2.put h4.isMap _ _, ?_, hown⟩, ?_⟩
    · rw [at_snoc hni] at hx
      by_cases c : id = last + 1
      · rw [if_pos c] at hx
        injection hx with hx
        subst hx c
        exact ⟨_, upd_same _ _ _, _, hn, Its.nil _ _⟩
      · rw [if_neg c] at hx
        obtain ⟨r, e, hr⟩ := h1.row id x hx
        exact ⟨r, by rw [upd_other _ _ c]; exact e, hr.keep (fun cs hw => hng _ _ _ hw (by decide)) (fun i cs hw => hng _ _ _ hw (by decide))⟩
    · unfold ids
      rw [List.map_append]
      by_cases c : id = last + 1
      · subst c
        simp
      · rw [upd_other _ _ c] at e
        exact List.mem_append_left _ (h1.dom id r e)
    · have hlt : ∀ k, m k = some r → r < w.heap.size := fun k e => by obtain ⟨_, _, hx⟩ := h1.mr e; exact hx.lt
      by_cases c : i = last + 1
      · by_cases c2 : j = last + 1
        · rw [c, c2]
        · subst c
          rw [upd_same] at e1
          rw [upd_other _ _ c2] at e2
          have h9 := hlt _ e2
          exact absurd (hsz.symm.trans (Option.some.inj e1)) (fun c => Nat.lt_irrefl _ (c ▸ h9))
      · by_cases c2 : j = last + 1
        · subst c2
          rw [upd_same] at e2
          rw [upd_other _ _ c] at e1
          have h9 := hlt _ e1
          exact absurd (hsz.symm.trans (Option.some.inj e2)) (fun c => Nat.lt_irrefl _ (c ▸ h9))
        · rw [upd_other _ _ c] at e1
          rw [upd_other _ _ c2] at e2
          exact h1.inj i j r e1 e2
    · unfold ids
      rw [List.map_append, List.pairwise_append]
      refine ⟨h1.srt, List.pairwise_singleton _ _, fun a ha b hb => ?_⟩
      have := (h1.low a ha).2
      have hb : b = last + 1 := by simpa using hb
      omega
    · unfold ids at hid
      rw [List.map_append] at hid
      rcases List.mem_append.1 hid with h | h
      · have := h1.low id h
        omega
      · have : id = last + 1 := by simpa using h
        omega
    · rcases List.mem_append.1 hp with h | h
      · exact h1.ok p h
      · rw [List.mem_singleton] at h
        subst h
        exact ⟨Nat.zero_le _, fun y hy => (by cases hy)⟩
    · by_cases c : i = last + 1
      · subst c
        rw [upd_same] at e
        have e := hsz.symm.trans (Option.some.inj e)
        exact .inr (Nat.le_of_eq e)
      · rw [upd_other _ _ c] at e
        exact .inl (h1.fr i r e)
    · have e := size_put (k := keyO (last + 1)) (d := ptrD (some W.heap.size)) (h4.tidy keyedU)
      have hno : has D (keyO (last + 1)) = false := by rw [h2.hs, lk_none h1 hni]; rfl
      rw [e, hno, h3, List.length_append]
      rfl
    · have k1 : Fk F w W := Fk.grown HG1.out h1.obj h1.fg (by decide)
      have k2 : Fk F W (W.drew.alloc (.cells #[.slice none 0 0, .int .u64 0] 74)) := Fk.of_below (below_alloc (Below.drew (Below.refl _ _)) _)
      have k3 : Fk F (W.drew.alloc (.cells #[.slice none 0 0, .int .u64 0] 74)) Z := Fk.map hg2 (World.ownsMap.alloc (show W.drew.ownsMap Try.prog 23 ptrR b last D from HOW.out) _) h1.fb
      exact (k1.trans k2 (fun _ _ h => h)).trans k3 (fun _ _ h => h))
  have c1 : Z.cell? ⟨g, 1, none⟩ = some (.int .u64 ((last : Int) + 1)) := (hkeep _ _ _ HOB.out).cell 1
  clear hK hown hturn hg2 hkeep HOW HOB HG1 H hS
  try simp only [Act.put]
  refine region_end (by kernel_rfl) ?_
  go_wp2_with fail
  go_ret2
  exact ⟨rfl, HE.out⟩
end Fee
end Go.Proofs.Ytlbfjdpcnnplnaa
