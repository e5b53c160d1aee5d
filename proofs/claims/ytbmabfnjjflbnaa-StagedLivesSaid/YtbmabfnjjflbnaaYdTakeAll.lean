/- Package staged: TakeAll. -/
import Derived.Test.YtbmabfnjjflbnaaYdAll
import Derived.Test.YtbmabfnjjflbnaaRowS
import Derived.Deep.DeepCutAuto
namespace Go.Proofs.Ytbmabfnjjflbnaa
namespace Yd
open Go.ChangeShapes Go.WideShapes Go.ChangeAt Go.RowKit Go.Maps
open Num Mem Words Chacha Aead Poly Quiet RowV RowS

/-- packets with the blocks of their bytes -/
def flatP : List (Nat × Pk) → List Value
  | [] => []
  | e :: E => pkL e.1 e.2 ++ flatP E
theorem flatP_length : ∀ E : List (Nat × Pk), (flatP E).length = E.length * 2
  | [] => rfl
  | e :: E => by show (pkL e.1 e.2 ++ flatP E).length = _; rw [List.length_append, flatP_length E, List.length_cons]; show 2 + _ = _; omega
theorem flatP_snoc : ∀ (E : List (Nat × Pk)) (a : Nat) (x : Pk), flatP (E ++ [(a, x)]) = flatP E ++ pkL a x
  | [], a, x => by show pkL a x ++ [] = [] ++ pkL a x; simp
  | d :: E, a, x => by show pkL d.1 d.2 ++ flatP (E ++ [(a, x)]) = (pkL d.1 d.2 ++ flatP E) ++ pkL a x; rw [flatP_snoc E a x, List.append_assoc]
theorem flatP_get : ∀ (E : List (Nat × Pk)) (i : Nat) (e : Nat × Pk), E[i]? = some e → (flatP E)[i * 2]? = some (.int .u64 (e.2.num : Nat)) ∧ (flatP E)[i * 2 + 1]? = some (.slice (some ⟨e.1, 0, none⟩) e.2.len e.2.len)
  | [], i, e, h => by simp at h
  | d :: E, 0, e, h => by
    simp only [List.getElem?_cons_zero, Option.some.injEq] at h
    subst h
    exact ⟨rfl, rfl⟩
  | d :: E, i + 1, e, h => by
    rw [List.getElem?_cons_succ] at h
    have ih := flatP_get E i e h
    show (pkL d.1 d.2 ++ flatP E)[(i + 1) * 2]? = _ ∧ (pkL d.1 d.2 ++ flatP E)[(i + 1) * 2 + 1]? = _
    rw [List.getElem?_append_right (by show 2 ≤ _; omega), List.getElem?_append_right (by show 2 ≤ _; omega)]
    have e1 : (i + 1) * 2 - (pkL d.1 d.2).length = i * 2 := by show (i + 1) * 2 - 2 = _; omega
    have e2 : (i + 1) * 2 + 1 - (pkL d.1 d.2).length = i * 2 + 1 := by show (i + 1) * 2 + 1 - 2 = _; omega
    rw [e1, e2]
    exact ih
def lies (w : World) (E : List (Nat × Pk)) : Prop := ∀ e ∈ E, Whole w e.1 5 (byteCells e.2.f e.2.len).toArray
theorem lies.kpb {w w' : World} {E : List (Nat × Pk)} (h : lies w E) (hk : KpB w w') : lies w' E := fun e he => hk _ _ (h e he)
theorem own_yk {w w' : World} {B B' e size n : Nat} {v : Value} {xs : List Value} (h : w.ownsRow B' e size v n xs) (hy : Yk B w w') (h1 : e ≠ 66) (h2 : e ≠ 41) : w'.ownsRow B' e size v n xs := by
  refine ⟨h.1, ?_⟩
  rcases h.2 with h0 | ⟨c, cap, cur, hv, hB, hh, rest⟩
  · exact Or.inl h0
  · exact Or.inr ⟨c, cap, cur, hv, hB, hy.whole (show Whole w c e cur from hh) h1 h2, rest⟩
theorem infoP : (Try.prog.info? 46).map (fun i => (i.zero, i.size, i.bytes)) = some (some (.agg zeroP.toArray), 2, 32) := by kernel_rfl
theorem all_not (w : World) : w.ownsRow w.heap.size 46 2 (.slice none 0 0) 0 [] := ⟨rfl, .inl ⟨rfl, rfl⟩⟩


theorem YM.grown {w w' : World} {B g b last thrown N : Nat} {Y : Int → List Pk} {D : DataW Unit} {m : Int → Option Nat} (h : YM w B g b Y last thrown N D m) {row : Option Nat} (hg : w.grownBy w' row) (hr : ∀ k, row = some k → ∃ t cs, Whole w k t cs ∧ t ≠ 5 ∧ t ≠ 66 ∧ t ≠ 41) : YM w' B g b Y last thrown N D m := by
  have hst : ∀ {i : Nat} {t : TypeId} {cs : Array Value}, Whole w i t cs → (t = 5 ∨ t = 66 ∨ t = 41) → Whole w' i t cs := fun {i t cs} e ht => (hg.block i e.lt (by
    intro k
    obtain ⟨u, ds, hu, h1, h2, h3⟩ := hr i k.symm
    have := whole_type e hu
    subst this
    rcases ht with ht | ht | ht
    · exact h1 ht
    · exact h2 ht
    · exact h3 ht)).trans e
  have hk : KpB w w' := fun _ _ e => hst e (.inl rfl)
  refine ⟨hst h.obj (.inr (.inr rfl)), h.own.kept hg (by
    intro e
    obtain ⟨u, ds, hu, _⟩ := hr b e.symm
    obtain ⟨es', clock, hb', _⟩ := h.own
    unfold Whole at hu
    rw [hu] at hb'
    cases hb'), h.ag, fun o r hm => ?_, h.inj, h.dom, h.bg, h.bb⟩
  obtain ⟨⟨cs', p, hr'⟩, hB⟩ := h.ring o r hm
  exact ⟨⟨cs', p, hr'.keep hk (hst hr'.blk (.inr (.inl rfl)))⟩, hB⟩
theorem YW.grown {w w' : World} {B g b last thrown : Nat} {Y : Int → List Pk} (h : YW w B g b Y last thrown) {row : Option Nat} (hg : w.grownBy w' row) (hr : ∀ k, row = some k → ∃ t cs, Whole w k t cs ∧ t ≠ 5 ∧ t ≠ 66 ∧ t ≠ 41) : YW w' B g b Y last thrown := by
  obtain ⟨D, m, h, hF⟩ := h
  exact ⟨D, m, h.grown hg hr, hF⟩

/-- what a taker does -/
structure Tk (o : Int) (ptr : Value) (B : Nat) (P : World → List Pk → Prop) : Prop where
  none_ : ∀ X, P X [] → Calls Try.prog 16 #[ptr, .int .i64 o] X fun e w' => e = .returned (.tuple #[.agg zeroP.toArray, .bool false]) ∧ Below X.heap.size X w'
  some_ : ∀ X x R, P X (x :: R) → Calls Try.prog 16 #[ptr, .int .i64 o] X fun e w' => ∃ a, e = .returned (.tuple #[pkV a x, .bool true]) ∧ Whole w' a 5 (byteCells x.f x.len).toArray ∧ P w' R ∧ Yk B X w'
  keep : ∀ X Y row R, P X R → X.grownBy Y row → (∀ k, row = some k → ∃ t cs, Whole X k t cs ∧ t ≠ 5 ∧ t ≠ 66 ∧ t ≠ 41) → P Y R
def nxL : Option (Nat × Pk) → List Value
  | none => zeroP
  | some e => pkL e.1 e.2
structure TaW (w : World) (B : Nat) (P : World → List Pk → Prop) (L : List Pk) (E : List (Nat × Pk)) (R : List Pk) (A : Option Addr) (c k : Nat) (nx : Option (Nat × Pk)) (X : World) : Prop where
  p : P X R
  row : X.ownsRow w.heap.size 46 2 (.slice A E.length c) E.length (flatP E)
  off : (Value.slice A E.length c).ownBlock ≠ some k
  var : Whole X k 46 (nxL nx).toArray
  kb : w.heap.size ≤ k
  ls : lies X (E ++ nx.toList)
  yk : Yk B w X
  all : L = E.map (·.2) ++ (nx.toList.map (·.2) ++ R)
  nil : nx = none → R = []
  fst : E = [] → A = none ∧ c = 0
theorem below_gr {X Y : World} (h : Below X.heap.size X Y) : X.grownBy Y none := ⟨h.os, h.tape, h.output, h.size, fun i hi _ => h.block i hi⟩
theorem Tk.below {o : Int} {ptr : Value} {B : Nat} {P : World → List Pk → Prop} (T : Tk o ptr B P) {X Y : World} {R : List Pk} (h : P X R) (hb : Below X.heap.size X Y) : P Y R := T.keep X Y none R h (below_gr hb) (fun _ e => by cases e)
theorem below_var (X : World) (zs cs : Array Value) (t : TypeId) : Below X.heap.size X ((X.alloc (.cells zs t)).setRow X.heap.size cs) := below_setRow (below_alloc (Below.refl _ _) _) (Nat.le_refl _) _
theorem pk_each (a : Nat) (x : Pk) : ∀ u ∈ pkL a x, u.oneCell' = true := by
  intro u hu
  simp only [pkL, List.mem_cons, List.not_mem_nil, or_false] at hu
  rcases hu with rfl | rfl <;> rfl
theorem Yk.own {B : Nat} {w X Y : World} {row : Option Nat} (h : Yk B w X) (hg : X.grownBy Y row) (hr : ∀ k, row = some k → w.heap.size ≤ k) : Yk B w Y :=
  ⟨hg.os.trans h.os, hg.tape.trans h.tape, hg.output.trans h.output, Nat.le_trans h.size hg.size, fun i hi hf => (hg.block i (Nat.lt_of_lt_of_le hi h.size) (fun e => by have := hr i e.symm; omega)).trans (h.block i hi hf)⟩
theorem own_lt' {w : World} {B e size n : Nat} {v : Value} {xs : List Value} (h : w.ownsRow B e size v n xs) : ∀ g, v.ownBlock = some g → g < w.heap.size := by
  intro g hg
  rcases h.2 with ⟨rfl, _⟩ | ⟨b, cap, cur, rfl, _, hh, _⟩
  · cases hg
  · injection hg with hg
    subst hg
    exact (show Whole w _ e cur from hh).lt
theorem own_off {w : World} {B e size n : Nat} {v : Value} {xs : List Value} (h : w.ownsRow B e size v n xs) {k : Nat} (hk : v.ownBlock ≠ some k) (ds : Array Value) : (w.setRow k ds).ownsRow B e size v n xs := by
  refine ⟨h.1, ?_⟩
  rcases h.2 with h0 | ⟨c, cap, cur, hv, hB, hh, rest⟩
  · exact Or.inl h0
  · refine Or.inr ⟨c, cap, cur, hv, hB, (setRow_other _ _ _ _ ?_).trans hh, rest⟩
    rintro rfl
    exact hk (by rw [hv]; rfl)
def lenV : Value → Nat
  | .slice _ n _ => n
  | _ => 0

set_option maxRecDepth 100000 in
set_option maxHeartbeats 2000000 in
theorem takeAll_gen {w : World} {o : Int} {ptr : Value} {B : Nat} {P : World → List Pk → Prop} (T : Tk o ptr B P) (L : List Pk) (hL : L.length ≤ 100) (h : P w L) : Calls Try.prog 17 #[ptr, .int .i64 o] w fun e w' => ∃ (E : List (Nat × Pk)) (A : Option Addr) (c : Nat), e = .returned (.slice A E.length c) ∧ E.map (·.2) = L ∧ w'.ownsRow w.heap.size 46 2 (.slice A E.length c) E.length (flatP E) ∧ lies w' E ∧ P w' [] ∧ Yk B w w' ∧ (E = [] → A = none ∧ c = 0) := by
  have HT := Lib.hid T
  have HP := Lib.hid h
  clear h T
  go_enter Try.func17, Try.ntmps17
  go_upto_region 2 with fail
  go_cut [6, 7] (fun p s X => ∃ R k nx, p = .pointer (some ⟨k, 0, none⟩) ∧ s = .bool nx.isSome ∧ TaW w B P L [] R none 0 k nx X)
  case first =>
    rcases L with _ | ⟨x, R⟩
    · have HC := Lib.hid (HT.out.none_ w HP.out)
      obtain ⟨Z, hZ⟩ : ∃ Z, zeroP.toArray = Z := ⟨_, rfl⟩
      have HZS := Lib.hid (show Z.size = 2 by rw [← hZ]; rfl)
      have HZO := Lib.hid (show Z.all (·.oneCell') = true by rw [← hZ]; simp [zeroP, Value.oneCell'])
      rw [hZ] at HC
      have HZ := Lib.hid hZ
      clear hZ
      go_wp2_with fail
      refine HC.out.mono ?_
      rintro e w1 ⟨rfl, hb1⟩
      have HP1 := Lib.hid (HT.out.below HP.out hb1)
      have HB1 := Lib.hid hb1
      clear hb1 HC
      go_wp2_with (refine wpList_store_row rfl 46 (.tmp 6) (.tmp 12) rfl w1.heap.size Z rfl rfl 46 _ (Whole.new _ _ _) (by rw [HZS.out]; kernel_rfl) (by rw [HZS.out]; rfl) HZO.out ?_)
      go_meet
      refine ⟨[], w1.heap.size, none, rfl, rfl, ⟨HT.out.below HP1.out (below_var w1 _ _ _), ?_, by simp [Value.ownBlock], ?_, HB1.out.size, fun e he => (by cases he), Yk.of_below (below_trans HB1.out (below_var w1 _ _ _)), rfl, fun _ => rfl, fun _ => ⟨rfl, rfl⟩⟩⟩
      · exact ⟨rfl, .inl ⟨rfl, rfl⟩⟩
      · have h := setRow_heap _ _ _ Z _ _ (Whole.new w1 46 #[.int .u64 0, .slice none 0 0])
        exact HZ.out ▸ h
    · have HC := Lib.hid (HT.out.some_ w x R HP.out)
      go_wp2_with fail
      refine HC.out.mono ?_
      rintro e w1 ⟨a, rfl, hby, hp, hyk⟩
      obtain ⟨Z, hZ⟩ : ∃ Z, (pkL a x).toArray = Z := ⟨_, rfl⟩
      have HZS := Lib.hid (show Z.size = 2 by rw [← hZ]; rfl)
      have HZO := Lib.hid (show Z.all (·.oneCell') = true by rw [← hZ]; exact pk_one a x)
      unfold pkV
      rw [hZ]
      have HZ := Lib.hid hZ
      have HBY := Lib.hid hby
      have HP1 := Lib.hid hp
      have HK1 := Lib.hid hyk
      clear hZ hby hp hyk HC
      go_wp2_with (refine wpList_store_row rfl 46 (.tmp 6) (.tmp 12) rfl w1.heap.size Z rfl rfl 46 _ (Whole.new _ _ _) (by rw [HZS.out]; kernel_rfl) (by rw [HZS.out]; rfl) HZO.out ?_)
      go_meet
      refine ⟨R, w1.heap.size, some (a, x), rfl, rfl, ⟨HT.out.below HP1.out (below_var w1 _ _ _), ?_, by simp [Value.ownBlock], ?_, HK1.out.size, fun e he => ?_, HK1.out.trans (Yk.of_below (below_var w1 _ _ _)), rfl, fun e => (by cases e), fun _ => ⟨rfl, rfl⟩⟩⟩
      · exact ⟨rfl, .inl ⟨rfl, rfl⟩⟩
      · have h := setRow_heap _ _ _ Z _ _ (Whole.new w1 46 #[.int .u64 0, .slice none 0 0])
        exact HZ.out ▸ h
      · have e2 : e = (a, x) := by simpa using he
        subst e2
        exact HBY.out.below (below_var w1 _ _ _) HBY.out.lt
  case rest =>
    obtain ⟨R, k, nx, rfl, rfl, hW⟩ := hcut
    have H0 := Lib.hid hW
    clear hW HP
    go_upto_region 3 with fail
    go_loopw [5, 6, 7] (fun out p s X => ∃ E R A c k nx, out = .slice A (E : List (Nat × Pk)).length c ∧ p = .pointer (some ⟨k, 0, none⟩) ∧ s = .bool (nx : Option (Nat × Pk)).isSome ∧ TaW w B P L E R A c k nx X) (fun out _ _ _ => L.length - lenV out)
    case atStart => exact ⟨[], R, none, 0, k, nx, rfl, rfl, rfl, H0.out⟩
    case round =>
      obtain ⟨E, R, A, c, k, nx, rfl, rfl, rfl, hW⟩ := hrel
      have HW := Lib.hid hW
      clear hW H0
      rcases nx with _ | ⟨a, x⟩
      · have hR := HW.out.nil rfl
        subst hR
        go_wp2_with fail
        go_ret
        refine ⟨E, A, c, rfl, ?_, HW.out.row, ?_, HW.out.p, HW.out.yk, HW.out.fst⟩
        · have := HW.out.all
          simpa using this.symm
        · have := HW.out.ls
          simpa using this
      · have HV := Lib.hid (show Whole wr k 46 #[.int .u64 (x.num : Nat), .slice (some ⟨a, 0, none⟩) x.len x.len] from HW.out.var)
        have hEl : E.length < L.length := by
          have := congrArg List.length HW.out.all
          simp at this
          omega
        obtain ⟨n, hn⟩ : ∃ n, E.length = n := ⟨_, rfl⟩
        have hnL : n < L.length := by omega
        have HN := Lib.hid hn
        have hnl : n ≤ 100 := by omega
        have HRO := Lib.hid (show wr.ownsRow w.heap.size 46 2 (.slice A n c) n (flatP E) from hn ▸ HW.out.row)
        have HOF := Lib.hid (show (Value.slice A n c).ownBlock ≠ some k from hn ▸ HW.out.off)
        rw [hn]
        clear hn hEl
        go_upto_region 6 with (first | (refine wpList_load_row rfl 46 (.tmp 6) rfl k rfl 46 #[.int .u64 (x.num : Nat), .slice (some ⟨a, 0, none⟩) x.len x.len] (0, 0) _ HV.out rfl rfl (by kernel_rfl) ?_) | (at_builtin; refine wpList_pushG2 (pkL a x) 2 rfl _ _ 49 46 (.agg zeroP.toArray) 32 Try.underlying49 infoP rfl (by omega) rfl rfl rfl HRO.out HW.out.yk.size rfl (pk_each a x) (by omega) (by omega) ?_; intro A' c' w2 hown hbel hgr hoff))
        have hrow : ∀ k', (Value.slice A n c).ownBlock = some k' → ∃ t cs, Whole wr k' t cs ∧ t ≠ 5 ∧ t ≠ 66 ∧ t ≠ 41 := fun k' e => by
          rcases HRO.out.2 with ⟨h0, _⟩ | ⟨g', cap, cur, hv, hB, hh, _⟩
          · rw [h0] at e; cases e
          · rw [hv] at e
            injection e with e
            simp at e
            subst e
            exact ⟨_, _, hh, by decide, by decide, by decide⟩
        have hk2 : KpB wr w2 := fun i es e => (hgr.block i e.lt (by
          intro h
          obtain ⟨t, cs, h1, h2, _⟩ := hrow i h.symm
          exact h2 (whole_type h1 e))).trans e
        have HX := Lib.hid (show P w2 R ∧ w2.ownsRow w.heap.size 46 2 (.slice A' (n + 1) c') (n + 1) (flatP (E ++ [(a, x)])) ∧ lies w2 (E ++ [(a, x)]) ∧ Yk B w w2 from by
          refine ⟨HT.out.keep _ _ _ _ HW.out.p hgr hrow, ?_, HW.out.ls.kpb hk2, HW.out.yk.own hgr (fun k' e => ?_)⟩
          · rw [flatP_snoc]; exact hown
          · rcases HRO.out.2 with ⟨h0, _⟩ | ⟨g', cap, cur, hv, hB, hh, _⟩
            · rw [h0] at e; cases e
            · rw [hv] at e
              injection e with e
              simp at e
              omega)
        have HV2 := Lib.hid (show Whole w2 k 46 #[.int .u64 (x.num : Nat), .slice (some ⟨a, 0, none⟩) x.len x.len] from (hgr.block k HV.out.lt (fun e => HOF.out e.symm)).trans HV.out)
        clear hown hbel hgr hoff hrow hk2
        go_upto_region 4 with (first | (refine wpList_load_row rfl 46 (.tmp 6) rfl k rfl 46 #[.int .u64 (x.num : Nat), .slice (some ⟨a, 0, none⟩) x.len x.len] (0, 0) _ HV2.out rfl rfl (by kernel_rfl) ?_) | (refine wpList_store_row rfl 46 (.tmp 6) (.tmp 25) rfl w2.heap.size #[.int .u64 (x.num : Nat), .slice (some ⟨a, 0, none⟩) x.len x.len] rfl rfl 46 _ (Whole.new _ _ _) (by kernel_rfl) rfl (pk_one a x) ?_))
        refine cut_world (fun X => P X R ∧ X.ownsRow w.heap.size 46 2 (.slice A' (n + 1) c') (n + 1) (flatP (E ++ [(a, x)])) ∧ lies X (E ++ [(a, x)]) ∧ Yk B w X ∧ ∃ cs : Array Value, cs.size = 2 ∧ Whole X w2.heap.size 46 cs) (by
          have hb := below_var w2 #[.int .u64 0, .slice none 0 0] #[.int .u64 (x.num : Nat), .slice (some ⟨a, 0, none⟩) x.len x.len] 46
          exact ⟨HT.out.below HX.out.1 hb, own_keep HX.out.2.1 hb, HX.out.2.2.1.kpb (KpB.below hb), HX.out.2.2.2.trans (Yk.of_below hb), _, rfl, setRow_heap _ _ _ _ _ _ (Whole.new _ _ _)⟩) ?_
        have hoff2 : (Value.slice A' (n + 1) c').ownBlock ≠ some w2.heap.size := fun e => by
          have := own_lt' HX.out.2.1 _ e
          omega
        have hk2w : w.heap.size ≤ w2.heap.size := HX.out.2.2.2.size
        have hall : L = (E ++ [(a, x)]).map (·.2) ++ R := by
          have := HW.out.all
          simpa using this
        have HALL := Lib.hid hall
        have HOF2 := Lib.hid hoff2
        obtain ⟨k2, hk2⟩ : ∃ k2, w2.heap.size = k2 := ⟨_, rfl⟩
        rw [hk2] at HOF2 hk2w ⊢
        obtain ⟨E2, hE2⟩ : ∃ E2, E ++ [(a, x)] = E2 := ⟨_, rfl⟩
        have HE2 := Lib.hid (show E2.length = n + 1 from by rw [← hE2, List.length_append, HN.out]; rfl)
        rw [hE2] at HALL ⊢
        clear hall hoff2 hk2 hE2 HX HV2 HV HRO HOF HW HN
        intro X hX
        obtain ⟨hp, hro, hls, hyk, cs, hcs, hv⟩ := hX
        have HPX := Lib.hid hp
        have HRO := Lib.hid hro
        have HLS := Lib.hid hls
        have HYK := Lib.hid hyk
        have HVX := Lib.hid hv
        clear hp hro hls hyk hv
        rcases R with _ | ⟨y, R⟩
        · have HC := Lib.hid (HT.out.none_ X HPX.out)
          obtain ⟨Z, hZ⟩ : ∃ Z, zeroP.toArray = Z := ⟨_, rfl⟩
          have HZS := Lib.hid (show Z.size = 2 by rw [← hZ]; rfl)
          have HZO := Lib.hid (show Z.all (·.oneCell') = true by rw [← hZ]; simp [zeroP, Value.oneCell'])
          rw [hZ] at HC
          have HZ := Lib.hid hZ
          clear hZ
          go_wp2_with fail
          refine HC.out.mono ?_
          rintro e w1 ⟨rfl, hb1⟩
          have HB1 := Lib.hid hb1
          have HV1 := Lib.hid (HVX.out.below hb1 HVX.out.lt)
          have HCS := Lib.hid hcs
          clear hb1 HC hcs
          go_wp2_with (refine wpList_store_row rfl 46 (.tmp 6) (.tmp 19) rfl k2 Z rfl rfl 46 _ HV1.out (by rw [HZS.out]; kernel_rfl) (by rw [HZS.out]; exact HCS.out) HZO.out ?_)
          go_round
          case rel =>
            have hg := grown_setRow w1 k2 Z
            have hr : ∀ k', some k2 = some k' → ∃ t cs, Whole w1 k' t cs ∧ t ≠ 5 ∧ t ≠ 66 ∧ t ≠ 41 := fun k' e => by
              injection e with e
              subst e
              exact ⟨_, _, HV1.out, by decide, by decide, by decide⟩
            refine ⟨E2, [], A', c', k2, none, by rw [HE2.out], rfl, rfl, ⟨HT.out.keep _ _ _ _ (HT.out.below HPX.out HB1.out) hg hr, ?_, ?_, ?_, hk2w, ?_, (HYK.out.trans (Yk.of_below HB1.out)).own hg (fun k' e => by injection e with e; omega), ?_, fun _ => rfl, fun e => by rw [e] at HE2; have := HE2.out; simp at this⟩⟩
            · rw [HE2.out]; exact own_off (own_keep HRO.out HB1.out) HOF2.out _
            · rw [HE2.out]; exact HOF2.out
            · have h := setRow_heap _ _ _ Z _ _ HV1.out
              exact HZ.out ▸ h
            · have := (HLS.out.kpb (KpB.below HB1.out)).kpb (KpB.setRow HV1.out (by decide) (ds := Z))
              simpa using this
            · have := HALL.out
              simpa using this
          case measure => show L.length - (n + 1) < L.length - n; omega
        · have HC := Lib.hid (HT.out.some_ X y R HPX.out)
          go_wp2_with fail
          refine HC.out.mono ?_
          rintro e w1 ⟨a2, rfl, hby, hp1, hyk1⟩
          obtain ⟨Z, hZ⟩ : ∃ Z, (pkL a2 y).toArray = Z := ⟨_, rfl⟩
          have HZS := Lib.hid (show Z.size = 2 by rw [← hZ]; rfl)
          have HZO := Lib.hid (show Z.all (·.oneCell') = true by rw [← hZ]; exact pk_one a2 y)
          unfold pkV
          rw [hZ]
          have HZ := Lib.hid hZ
          have HBY := Lib.hid hby
          have HP1 := Lib.hid hp1
          have HB1 := Lib.hid hyk1
          have HV1 := Lib.hid (hyk1.whole HVX.out (by decide) (by decide))
          have HCS := Lib.hid hcs
          clear hZ hby hp1 hyk1 HC hcs
          go_wp2_with (refine wpList_store_row rfl 46 (.tmp 6) (.tmp 19) rfl k2 Z rfl rfl 46 _ HV1.out (by rw [HZS.out]; kernel_rfl) (by rw [HZS.out]; exact HCS.out) HZO.out ?_)
          go_round
          case rel =>
            have hg := grown_setRow w1 k2 Z
            have hr : ∀ k', some k2 = some k' → ∃ t cs, Whole w1 k' t cs ∧ t ≠ 5 ∧ t ≠ 66 ∧ t ≠ 41 := fun k' e => by
              injection e with e
              subst e
              exact ⟨_, _, HV1.out, by decide, by decide, by decide⟩
            refine ⟨E2, R, A', c', k2, some (a2, y), by rw [HE2.out], rfl, rfl, ⟨HT.out.keep _ _ _ _ HP1.out hg hr, ?_, ?_, ?_, hk2w, ?_, (HYK.out.trans HB1.out).own hg (fun k' e => by injection e with e; omega), ?_, fun e => (by cases e), fun e => by rw [e] at HE2; have := HE2.out; simp at this⟩⟩
            · rw [HE2.out]; exact own_off (own_yk HRO.out HB1.out (by decide) (by decide)) HOF2.out _
            · rw [HE2.out]; exact HOF2.out
            · have h := setRow_heap _ _ _ Z _ _ HV1.out
              exact HZ.out ▸ h
            · intro e he
              have hks := KpB.setRow HV1.out (by decide) (ds := Z)
              rcases List.mem_append.1 he with he | he
              · exact (HLS.out.kpb HB1.out.kpb).kpb hks e he
              · have e2 : e = (a2, y) := by simpa using he
                subst e2
                exact hks _ _ HBY.out
            · have := HALL.out
              simpa using this
          case measure => show L.length - (n + 1) < L.length - n; omega

theorem Tk.nil (o : Int) (B : Nat) : Tk o (.pointer none) B (fun _ R => R = []) :=
  ⟨fun X _ => take_nil o X, fun _ _ _ h => (by cases h), fun _ _ _ _ h _ _ => h⟩
theorem Tk.zero (o : Int) (B g : Nat) (x y : Value) : Tk o (.pointer (some ⟨g, 0, none⟩)) B (fun X R => R = [] ∧ Whole X g 41 #[.map none, x, y]) := by
  refine ⟨fun X h => take_zero g x y o X h.2, fun _ _ _ h => (by cases h.1), fun X Y row R h hg hr => ⟨h.1, (hg.block g h.2.lt (fun e => ?_)).trans h.2⟩⟩
  obtain ⟨t, cs, h1, _, _, h4⟩ := hr g e.symm
  exact h4 (whole_type h1 h.2)
theorem Tk.some {o : Int} (hok : okI o) {B g b last thrown : Nat} {Y : Int → List Pk} : Tk o (.pointer (some ⟨g, 0, none⟩)) B (fun X R => YW X B g b (upd Y o R) last thrown) := by
  refine ⟨fun X h => take_none h o hok (upd_same _ _ _), fun X x R h => ?_, fun X Z row R h hg hr => h.grown hg hr⟩
  refine (take_some h o hok x R (upd_same _ _ _)).mono ?_
  rintro e w' ⟨a, h1, h2, h3, h4⟩
  rw [upd_twice] at h3
  exact ⟨a, h1, h2, h3, h4⟩

theorem takeAll_nil (o : Int) (w : World) : Calls Try.prog 17 #[.pointer none, .int .i64 o] w fun e w' => e = .returned (.slice none 0 0) ∧ Below w.heap.size w w' := by
  refine (takeAll_gen (Tk.nil o w.heap.size) [] (by decide) rfl).mono ?_
  rintro e w' ⟨E, A, c, rfl, hE, _, _, _, hy, hz⟩
  have e0 : E = [] := by simpa using hE
  subst e0
  obtain ⟨rfl, rfl⟩ := hz rfl
  exact ⟨rfl, hy.below (Nat.le_refl _)⟩
theorem takeAll_zero (g : Nat) (x y : Value) (o : Int) (w : World) (h : Whole w g 41 #[.map none, x, y]) : Calls Try.prog 17 #[.pointer (some ⟨g, 0, none⟩), .int .i64 o] w fun e w' => e = .returned (.slice none 0 0) ∧ Below w.heap.size w w' := by
  refine (takeAll_gen (Tk.zero o w.heap.size g x y) [] (by decide) ⟨rfl, h⟩).mono ?_
  rintro e w' ⟨E, A, c, rfl, hE, _, _, _, hy, hz⟩
  have e0 : E = [] := by simpa using hE
  subst e0
  obtain ⟨rfl, rfl⟩ := hz rfl
  exact ⟨rfl, hy.below (Nat.le_refl _)⟩
theorem takeAll_any {w : World} {B g b last thrown : Nat} {Y : Int → List Pk} (h : YW w B g b Y last thrown) (o : Int) (hok : okI o) : Calls Try.prog 17 #[.pointer (some ⟨g, 0, none⟩), .int .i64 o] w fun e w' => ∃ (E : List (Nat × Pk)) (A : Option Addr) (c : Nat), e = .returned (.slice A (Y o).length c) ∧ E.map (·.2) = Y o ∧ w'.ownsRow w.heap.size 46 2 (.slice A (Y o).length c) (Y o).length (flatP E) ∧ lies w' E ∧ YW w' B g b (upd Y o []) last thrown ∧ Yk B w w' := by
  refine (takeAll_gen (Tk.some hok (B := B) (g := g) (b := b) (last := last) (thrown := thrown) (Y := Y)) (Y o) (Nat.le_trans (h.few o) (by decide)) (by rw [upd_self]; exact h)).mono ?_
  rintro e w' ⟨E, A, c, rfl, hE, h1, h2, h3, h4, -⟩
  have hl : E.length = (Y o).length := by rw [← hE, List.length_map]
  rw [hl] at h1
  exact ⟨E, A, c, by rw [hl], hE, h1, h2, h3, h4⟩
end Yd
end Go.Proofs.Ytbmabfnjjflbnaa
