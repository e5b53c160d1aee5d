/- The document's own feed: Take. -/
import Derived.Test.YtlbfjdpcnnplnaaRfTake
namespace Go.Proofs.Ytlbfjdpcnnplnaa
namespace Fee
open Go.ChangeShapes Go.WideShapes Go.ChangeAt Go.RowKit Go.Maps
open Num Mem Words Chacha Aead Poly Quiet RowV RowS

theorem putS_set {S : St} {i id : Nat} {y z : Wt} (hn : (ids S).Nodup) (h : S[i]? = some (id, y)) : putS S id z = S.set i (id, z) := by
  apply List.ext_getElem?
  intro j
  unfold putS
  rw [List.getElem?_map, List.getElem?_set]
  by_cases c : i = j
  · subst c
    rw [h, if_pos rfl, if_pos (List.getElem?_eq_some_iff.1 h).1, Option.map_some, if_pos rfl]
  · rw [if_neg c]
    rcases hj : S[j]? with _ | p
    · rfl
    · rw [Option.map_some]
      congr 1
      rw [if_neg]
      intro e
      have h1 : (ids S)[i]? = some id := by unfold ids; rw [List.getElem?_map, h]; rfl
      have h2 : (ids S)[j]? = some id := by unfold ids; rw [List.getElem?_map, hj, Option.map_some, e]
      have hl := (List.getElem?_eq_some_iff.1 h1).1
      exact c (((List.getElem?_inj hl hn).1 (h1.trans h2.symm)))
/-- the loop's world: the row's copy at N, what goes out, what is left -/
structure TL (w : World) (B : Nat) (G : Nat → Prop) (x N : Nat) (R : List RR) (A : Option Addr) (c last : Nat) (V : Array Value) (o1 : List It) (Ao : Option Addr) (co : Nat) (l1 : List It) (Al : Option Addr) (cl : Nat) (X : World) : Prop where
  rw_ : RW X B G x R A c last
  box : Whole X N 58 V
  out : OwI X w.heap.size Ao co o1
  left : OwI X w.heap.size Al cl l1
  apart : ∀ j, ownA Ao = some j → ownA Al ≠ some j
  bel : Below w.heap.size w X
theorem own_cat {Y : World} {B : Nat} {A' : Option Addr} {c' : Nat} {L : List It} {y : It} (hown : Y.ownsRow B 81 35 (.slice A' (L.length + 1) c') (L.length + 1) (flatI L ++ flatI [y])) : OwI Y B A' c' (L ++ [y]) := by
  unfold OwI
  rw [List.length_append, flatI_append]
  exact hown
theorem TL.keep {w X Y : World} {B : Nat} {G : Nat → Prop} {x N : Nat} {R : List RR} {A : Option Addr} {c last : Nat} {V : Array Value} {o1 l1 : List It} {Ao Al : Option Addr} {co cl : Nat} (h : TL w B G x N R A c last V o1 Ao co l1 Al cl X) (hb : Below X.heap.size X Y) : TL w B G x N R A c last V o1 Ao co l1 Al cl Y :=
  ⟨h.rw_.below hb, h.box.below hb h.box.lt, own_keep2 h.out fun _ _ _ hw => hw.below hb hw.lt, own_keep2 h.left fun _ _ _ hw => hw.below hb hw.lt, h.apart, below_trans h.bel hb⟩
theorem TL.pushOut {w X Y : World} {B : Nat} {G : Nat → Prop} {x N : Nat} {R : List RR} {A : Option Addr} {c last : Nat} {V : Array Value} {o1 l1 : List It} {Ao Al : Option Addr} {co cl : Nat} {us : Array Value} (h : TL w B G x N R A c last V o1 Ao co l1 Al cl X) (hx : x < w.heap.size) {A' : Option Addr} {c' : Nat} {y : It}
    (hlo : ∀ j, (ownA A = some j ∨ ∃ r ∈ R, ownA r.A = some j) → j < w.heap.size)
    (hown : Y.ownsRow w.heap.size 81 35 (.slice A' (o1.length + 1) c') (o1.length + 1) (flatI o1 ++ flatI [y])) (hg : (X.alloc (.cells us 81)).grownBy Y (ownA Ao)) (hat : ownA A' = ownA Ao ∨ ownA A' = some (X.alloc (.cells us 81)).heap.size) : TL w B G x N R A c last V (o1 ++ [y]) A' c' l1 Al cl Y := by
  have hbo : ∀ j, ownA Ao = some j → w.heap.size ≤ j := fun j hj => by
    rcases h.out.2 with ⟨e, _⟩ | ⟨g, cap, cur, e, hB, _⟩
    · injection e with e
      rw [e] at hj
      cases hj
    · injection e with e
      rw [e] at hj
      have hj : g = j := Option.some.inj hj
      rw [← hj]
      exact hB
  have hk : ∀ j t cs, Whole X j t cs → ownA Ao ≠ some j → Whole Y j t cs := fun j t cs hw hne => by
    have h0 := hw.alloc (.cells us 81)
    exact (hg.block j h0.lt (fun e => hne e.symm)).trans h0
  refine ⟨h.rw_.keep fun j t cs hj hw => hk _ _ _ hw (fun e => ?_), hk _ _ _ h.box (fun e => ?_), own_cat hown, own_keep2 h.left fun j cs e hw => hk _ _ _ hw (fun e2 => h.apart j e2 (by rw [← own_b Al l1.length cl]; exact e)), fun j hj e => ?_, ?_⟩
  · have := hbo j e
    rcases hj with hj | hj | hj
    · rw [hj] at this
      omega
    · have h2 := hlo j (.inl hj)
      omega
    · have h2 := hlo j (.inr hj)
      omega
  · obtain ⟨cs, hw⟩ := own_type h.out (j := N) (by rw [own_b]; exact e)
    exact absurd (whole_type hw h.box) (by decide)
  · rcases hat with e2 | e2
    · exact h.apart j (e2 ▸ hj) e
    · rw [hj] at e2
      injection e2 with e2
      obtain ⟨cs, hw⟩ := own_type h.left (j := j) (by rw [own_b]; exact e)
      have := hw.lt
      simp at e2
      omega
  · have hb0 : Below w.heap.size w (X.alloc (.cells us 81)) := below_alloc h.bel _
    exact ⟨hg.os.trans hb0.os, hg.tape.trans hb0.tape, hg.output.trans hb0.output, Nat.le_trans hb0.size hg.size, fun j hj => (hg.block j (Nat.lt_of_lt_of_le hj hb0.size) (fun e => by have := hbo j e.symm; omega)).trans (hb0.block j hj)⟩
theorem TL.swap {w X : World} {B : Nat} {G : Nat → Prop} {x N : Nat} {R : List RR} {A : Option Addr} {c last : Nat} {V : Array Value} {o1 l1 : List It} {Ao Al : Option Addr} {co cl : Nat} (h : TL w B G x N R A c last V o1 Ao co l1 Al cl X) : TL w B G x N R A c last V l1 Al cl o1 Ao co X :=
  ⟨h.rw_, h.box, h.left, h.out, fun j h1 h2 => h.apart j h2 h1, h.bel⟩
theorem TL.set {w X : World} {B : Nat} {G : Nat → Prop} {x N g : Nat} {R : List RR} {c last : Nat} {V : Array Value} {o1 l1 : List It} {Ao Al : Option Addr} {co cl : Nat} (h : TL w B G x N R (some ⟨g, 0, none⟩) c last V o1 Ao co l1 Al cl X) (hN : w.heap.size ≤ N) (hg : g < w.heap.size) (i : Nat) (u : Value) : TL w B G x N R (some ⟨g, 0, none⟩) c last (V.setIfInBounds i u) o1 Ao co l1 Al cl (X.setCell ⟨N, i, none⟩ u) := by
  have hf : ∀ {j : Nat} {t : TypeId} {cs : Array Value}, Whole X j t cs → j ≠ N → Whole (X.setCell ⟨N, i, none⟩ u) j t cs := fun hw ne => hw.far ne u
  have hi : ∀ {j : Nat} {cs : Array Value}, Whole X j 81 cs → Whole (X.setCell ⟨N, i, none⟩ u) j 81 cs := fun hw => hf hw (fun e => by subst e; exact absurd (whole_type hw h.box) (by decide))
  refine ⟨h.rw_.keep fun j t cs hj hw => hf hw ?_, h.box.put i u, own_keep2 h.out fun _ _ _ hw => hi hw, own_keep2 h.left fun _ _ _ hw => hi hw, h.apart, h.bel.setCell (by show w.heap.size ≤ N; exact hN) u⟩
  rcases hj with rfl | hj | ⟨s, hs, hj⟩
  · intro e
    subst e
    exact absurd (whole_type h.box h.rw_.obj) (by decide)
  · intro e
    have hj : g = j := Option.some.inj hj
    omega
  · intro e
    subst e
    obtain ⟨cs, hw⟩ := own_type (h.rw_.its s hs) (j := j) (by rw [own_b]; exact hj)
    exact absurd (whole_type hw h.box) (by decide)
theorem own_blk {w : World} {B : Nat} {A : Option Addr} {c : Nat} {L : List It} (h : OwI w B A c L) : ∀ j, ownA A = some j → B ≤ j := fun j hj => by
  rcases h.2 with ⟨e, _⟩ | ⟨g, cap, cur, e, hB, _⟩
  · injection e with e
    rw [e] at hj
    cases hj
  · injection e with e
    rw [e] at hj
    have hj : g = j := Option.some.inj hj
    rw [← hj]
    exact hB
/-- what Take leaves and tells -/
def TakeR (w w' : World) (B : Nat) (G : Nat → Prop) (x : Nat) (S : St) (last id : Nat) (q : Int) (e : Ending) : Prop :=
  (∃ y A c, at_ S id = some y ∧ e = .returned (.tuple #[.slice A (takeL y q).length c, .int .i64 0]) ∧ OwI w' B A c (takeL y q) ∧ RFk w w' B G x (putS S id (takeW y q)) last) ∨ (at_ S id = none ∧ e = .returned (.tuple #[.slice none 0 0, .int .i64 4]) ∧ w = w')
set_option maxRecDepth 100000 in
set_option maxHeartbeats 2000000 in
theorem rtake_any {w : World} {B : Nat} {G : Nat → Prop} {x last : Nat} {S : St} (h : RF w B G x S last) (hS : S.length ≤ 100) (hnd : (ids S).Nodup) (hok : ∀ p ∈ S, OkWt p.2) (id : Nat) (q : Int) : Calls Try.prog 18 #[.pointer (some ⟨x, 0, none⟩), .int .u64 (id : Nat), .int .i64 q] w fun e w' => TakeR w w' B G x S last id q e := by
  obtain ⟨R, A, c, h1, rfl, hG⟩ := h
  rw [stR_length] at hS
  have HF := Lib.hid (rfind_any h1 (by omega) id)
  have H := Lib.hid h1
  have HG := Lib.hid hG
  have HND := Lib.hid hnd
  have HOK := Lib.hid hok
  have c0 : w.cell? ⟨x, 0, none⟩ = some (.slice A R.length c) := h1.obj.cell 0
  obtain ⟨n, hn⟩ : ∃ n, R.length = n := ⟨_, rfl⟩
  rw [hn] at c0 hS
  have HN := Lib.hid hn
  clear h1 hG hnd hok hn
  go_enter Try.func18, Try.ntmps18
  go_wp2_with fail
  refine HF.out.mono ?_
  rintro e w1 ⟨⟨i, r, hr, rfl, hno, rfl⟩ | ⟨hno, rfl⟩, rfl⟩
  · have hi : i < n := by rw [← HN.out]; exact (List.getElem?_eq_some_iff.1 hr).1
    have HAT := Lib.hid (at_stR hr hno)
    have hokr : OkWt r.x := HOK.out (r.id, r.x) (List.mem_map.2 ⟨r, List.mem_of_getElem? hr, rfl⟩)
    have HOKR := Lib.hid hokr
    have hfew := hokr.few
    obtain ⟨g, rfl, hgl, hrg, _⟩ := H.out.cell hr
    have HR := Lib.hid hr
    have HRG := Lib.hid hrg
    have HXL := Lib.hid (show x < w.heap.size from H.out.obj.lt)
    have HGW := Lib.hid hgl
    have hi' : (i : Int) < (n : Int) := by omega
    obtain ⟨V, hV⟩ : ∃ V, rrL r = V := ⟨_, rfl⟩
    have hVV : V = [.int .u64 (r.id : Nat), .slice r.A r.x.L.length r.c, .int .u64 (r.x.lost : Nat)] := hV ▸ rfl
    have HVV := Lib.hid hVV
    have HVL := Lib.hid (show V.length = 3 by rw [← hV]; rfl)
    have HVO := Lib.hid (show V.toArray.all (·.oneCell') = true by rw [← hV]; exact rrL_one r)
    rw [hV] at HRG
    clear hr hno HF hokr hgl hrg hV hVV
    go_upto_region 4 with fail
    apply wp_region_lit
    refine Ops.wpList_value_if (by rfl) _ (by go_simp; try with_reducible rfl) ?_
    try simp only [Act.put, List.setIfInBounds_toArray, List.set_cons_zero, List.set_cons_succ]
    refine Ops.wpList_value_if (by rfl) _ (by go_simp; try with_reducible rfl) ?_
    try simp only [Act.put, List.setIfInBounds_toArray, List.set_cons_zero, List.set_cons_succ]
    refine Ops.wpList_value_if (by rfl) _ (by go_simp; try with_reducible rfl) ?_
    try simp only [Act.put, List.setIfInBounds_toArray, List.set_cons_zero, List.set_cons_succ]
    refine Ops.wpList_value_if (by rfl) _ (by go_simp; try with_reducible rfl) ?_
    try simp only [Act.put, List.setIfInBounds_toArray, List.set_cons_zero, List.set_cons_succ]
    refine Ops.wpList_value_if (by rfl) _ (by go_simp; try with_reducible rfl) ?_
    try simp only [Act.put, List.setIfInBounds_toArray, List.set_cons_zero, List.set_cons_succ]
    refine Ops.wpList_value_if (by rfl) _ (by go_simp; try with_reducible rfl) ?_
    try simp only [Act.put, List.setIfInBounds_toArray, List.set_cons_zero, List.set_cons_succ]
    refine wpList_load_mid rfl 58 (.tmp 23) rfl g (i * 3) rfl V _ HRG.out rfl rfl (by rw [HVL.out]; kernel_rfl) ?_
    try simp only [Act.put, List.setIfInBounds_toArray, List.set_cons_zero, List.set_cons_succ]
    go_upto_region 5 with (refine wpList_store_row rfl 58 (.tmp 9) (.tmp 24) rfl w.heap.size V.toArray rfl rfl 58 #[.int .u64 0, .slice none 0 0, .int .u64 0] (Whole.new _ _ _) (by rw [List.size_toArray, HVL.out]; kernel_rfl) (by simp [HVL.out]) HVO.out ?_)
    try simp only [Act.put]
    obtain ⟨m, hm⟩ : ∃ m, r.x.L.length = m := ⟨_, rfl⟩
    obtain ⟨k, hk⟩ : ∃ k, cnt q m = k := ⟨_, rfl⟩
    obtain ⟨l, hl⟩ : ∃ l, r.x.lost = l := ⟨_, rfl⟩
    have hVV : V.toArray = #[.int .u64 (r.id : Nat), .slice r.A m r.c, .int .u64 (l : Nat)] := by rw [HVV.out, hm, hl]
    have hkm : k ≤ m := by rw [← hk]; exact cnt_le q m
    have hki : (k : Int) = min (max q 0) (m : Int) := by rw [← hk]; exact cnt_int q m
    have HM := Lib.hid (show r.x.L.length = m ∧ cnt q m = k ∧ r.x.lost = l from ⟨hm, hk, hl⟩)
    rw [hm] at hfew
    have HKI := Lib.hid hki
    have HLO := Lib.hid (show ∀ j, (ownA (some ⟨g, 0, none⟩) = some j ∨ ∃ s ∈ R, ownA s.A = some j) → j < w.heap.size from fun j hj => by
      rcases hj with hj | ⟨s, hs, hj⟩
      · obtain ⟨cs, hw⟩ := own_type H.out.row (j := j) (by rw [own_b]; exact hj)
        exact hw.lt
      · obtain ⟨cs, hw⟩ := own_type (H.out.its s hs) (j := j) (by rw [own_b]; exact hj)
        exact hw.lt)
    have hbw : Below w.heap.size w ((w.alloc (.cells #[.int .u64 0, .slice none 0 0, .int .u64 0] 58)).setRow w.heap.size V.toArray) := below_setRow (below_alloc (Below.refl _ _) _) (Nat.le_refl _) _
    have hbox : Whole ((w.alloc (.cells #[.int .u64 0, .slice none 0 0, .int .u64 0] 58)).setRow w.heap.size V.toArray) w.heap.size 58 V.toArray := setRow_heap _ _ _ _ _ _ (Whole.new _ _ _)
    rw [hVV] at hbw hbox ⊢
    refine cut_world (fun X => TL w B G x w.heap.size R (some ⟨g, 0, none⟩) c last #[.int .u64 (r.id : Nat), .slice r.A m r.c, .int .u64 (l : Nat)] [] none 0 [] none 0 X) ⟨H.out.below hbw, hbox, ⟨rfl, .inl ⟨rfl, rfl⟩⟩, ⟨rfl, .inl ⟨rfl, rfl⟩⟩, (by intro j hj; cases hj), hbw⟩ ?_
    intro X0 hX0
    have HX0 := Lib.hid hX0
    obtain ⟨N, hNw⟩ : ∃ N, w.heap.size = N := ⟨_, rfl⟩
    have HNW := Lib.hid hNw
    rw [hNw] at HX0 ⊢
    clear hX0 hbw hbox hVV HVV HVL HVO HRG c0 hm hk hl hki hNw
    go_wp2_with fail
    go_loopw [10, 11, 12] (fun out lf ii X => ∃ (j a b : Nat) (Ao Al : Option Addr) (co cl : Nat), j ≤ m ∧ ((j ≤ k ∧ a = j ∧ b = 0) ∨ (k ≤ j ∧ a = k ∧ b = j - k)) ∧ out = .slice Ao a co ∧ lf = .slice Al b cl ∧ ii = .int .i64 j ∧ TL w B G x N R (some ⟨g, 0, none⟩) c last #[.int .u64 (r.id : Nat), .slice r.A m r.c, .int .u64 (l : Nat)] (r.x.L.take a) Ao co ((r.x.L.take j).drop k) Al cl X) (fun _ _ ii _ => m - (intOf ii).toNat)
    case atStart => exact ⟨0, 0, 0, none, none, 0, 0, Nat.zero_le _, .inl ⟨Nat.zero_le _, rfl, rfl⟩, rfl, rfl, rfl, by simpa using HX0.out⟩
    case round =>
      obtain ⟨j, a, b, Ao, Al, co, cl, hj, hab, rfl, rfl, rfl, hT⟩ := hrel
      have HT := Lib.hid hT
      have c1 : wr.cell? ⟨N, 1, none⟩ = some (.slice r.A m r.c) := hT.box.cell 1
      have c2 : wr.cell? ⟨N, 2, none⟩ = some (.int .u64 (l : Nat)) := hT.box.cell 2
      have f1 : wr.frozen? ⟨N, 1, none⟩ = false := hT.box.free 1
      have HAL := Lib.hid (show (r.x.L.take a).length = a ∧ ((r.x.L.take j).drop k).length = b from by
        rw [List.length_take, List.length_drop, List.length_take, HM.out.1]
        omega)
      clear hT HX0
      by_cases hlt : j < m
      · obtain ⟨y, hy⟩ : ∃ y, r.x.L[j]? = some y := ⟨_, List.getElem?_eq_getElem (by rw [HM.out.1]; exact hlt)⟩
        obtain ⟨gi, hgi, _, hgil, hgic⟩ := own_cells (show wr.ownsRow B 81 35 (.slice r.A r.x.L.length r.c) r.x.L.length (flatI r.x.L) from HT.out.rw_.its r (List.mem_of_getElem? HR.out)) (by rw [HM.out.1]; omega)
        have hrgi : wr.rangeAt gi (j * 35) (itL y) := fun jj v hv => (hgic _ _ ((flatI_get _ j jj y hy (by rw [← itL_length y]; exact (List.getElem?_eq_some_iff.1 hv).1)).trans hv)).1
        have HRI := Lib.hid hrgi
        have HTK := Lib.hid (show r.x.L.take (j + 1) = r.x.L.take j ++ [y] from by rw [List.take_add_one, hy]; rfl)
        have HYL := Lib.hid (show (itL y).length = 35 from itL_length y)
        have HB1 := Lib.hid (row_one25 y)
        obtain ⟨Y, hY⟩ : ∃ Y, itL y = Y := ⟨_, rfl⟩
        rw [hY] at HRI HYL HB1
        rw [hgi] at c1
        have hjm : (j : Int) < (m : Int) := by omega
        clear hrgi hgic hgil hY
        by_cases hjk : j < k
        · obtain ⟨rfl, rfl⟩ : a = j ∧ b = 0 := by omega
          have hd : (a : Int) < q := by have := HKI.out; omega
          go_upto_region 10 with fail
          apply wp_region_lit
          refine Ops.wpList_value_if (by rfl) _ (by go_simp; try with_reducible rfl) ?_
          try simp only [Act.put, List.setIfInBounds_toArray, List.set_cons_zero, List.set_cons_succ]
          refine Ops.wpList_value_if (by rfl) _ (by go_simp; try with_reducible rfl) ?_
          try simp only [Act.put, List.setIfInBounds_toArray, List.set_cons_zero, List.set_cons_succ]
          refine Ops.wpList_value_if (by rfl) _ (by go_simp; try with_reducible rfl) ?_
          try simp only [Act.put, List.setIfInBounds_toArray, List.set_cons_zero, List.set_cons_succ]
          refine Ops.wpList_value_if (by rfl) _ (by go_simp; try with_reducible rfl) ?_
          try simp only [Act.put, List.setIfInBounds_toArray, List.set_cons_zero, List.set_cons_succ]
          refine Ops.wpList_value_if (by rfl) _ (by go_simp; try with_reducible rfl) ?_
          try simp only [Act.put, List.setIfInBounds_toArray, List.set_cons_zero, List.set_cons_succ]
          refine wpList_load_mid rfl 81 (.tmp 40) rfl gi (a * 35) rfl Y _ HRI.out rfl rfl (by rw [HYL.out]; kernel_rfl) ?_
          try simp only [Act.put, List.setIfInBounds_toArray, List.set_cons_zero, List.set_cons_succ]
          refine wpList_rowOne rfl 49 81 (.tmp 41) rfl (.agg Y.toArray) rfl Try.underlying49 _ HB1.out ?_
          try simp only [Act.put, List.setIfInBounds_toArray, List.set_cons_zero, List.set_cons_succ]
          refine wpList_catG rfl (flatI [y]) 35 1 (.tmp 36) (.tmp 42) 49 81 _ 56 Try.underlying49 info_ritem rfl (by decide) rfl rfl ⟨wr.heap.size, 0, none⟩ 1 rfl (World.ownsRow.alloc (show wr.ownsRow w.heap.size 81 35 (.slice Ao a co) a (flatI (r.x.L.take a)) from by have := HT.out.out; unfold OwI at this; rw [HAL.out.1] at this; exact this) _) (Nat.le_trans HT.out.bel.size (by simp)) (flatI_length _) (news_new wr _ _) (flatI_each _) (by omega) (by omega) ?_
          intro A' c' Y2 hown hgr hat
          have HT2 := Lib.hid (show TL w B G x N R (some ⟨g, 0, none⟩) c last #[.int .u64 (r.id : Nat), .slice r.A m r.c, .int .u64 (l : Nat)] (r.x.L.take (a + 1)) A' c' ((r.x.L.take (a + 1)).drop k) Al cl Y2 from by
            have e1 : (r.x.L.take (a + 1)).drop k = (r.x.L.take a).drop k := by rw [List.drop_eq_nil_of_le (by rw [List.length_take]; omega), List.drop_eq_nil_of_le (by rw [List.length_take]; omega)]
            rw [e1, HTK.out]
            exact HT.out.pushOut HXL.out HLO.out (by rw [HAL.out.1]; exact hown) hgr hat)
          clear hown hgr hat HT HB1 HRI
          try simp only [Act.put, List.setIfInBounds_toArray, List.set_cons_zero, List.set_cons_succ]
          go_wp2_with fail
          go_roundw
          case rel => exact ⟨a + 1, a + 1, 0, A', Al, c', cl, by omega, by omega, by go_num, rfl, by go_num, HT2.out⟩
          case measure => simp [intOf]; omega
        · obtain ⟨rfl, rfl⟩ : a = k ∧ b = j - k := by omega
          have hd : ¬ (a : Int) < q := by have := HKI.out; omega
          go_upto_region 11 with fail
          apply wp_region_lit
          refine Ops.wpList_value_if (by rfl) _ (by go_simp; try with_reducible rfl) ?_
          try simp only [Act.put, List.setIfInBounds_toArray, List.set_cons_zero, List.set_cons_succ]
          refine Ops.wpList_value_if (by rfl) _ (by go_simp; try with_reducible rfl) ?_
          try simp only [Act.put, List.setIfInBounds_toArray, List.set_cons_zero, List.set_cons_succ]
          refine Ops.wpList_value_if (by rfl) _ (by go_simp; try with_reducible rfl) ?_
          try simp only [Act.put, List.setIfInBounds_toArray, List.set_cons_zero, List.set_cons_succ]
          refine Ops.wpList_value_if (by rfl) _ (by go_simp; try with_reducible rfl) ?_
          try simp only [Act.put, List.setIfInBounds_toArray, List.set_cons_zero, List.set_cons_succ]
          refine Ops.wpList_value_if (by rfl) _ (by go_simp; try with_reducible rfl) ?_
          try simp only [Act.put, List.setIfInBounds_toArray, List.set_cons_zero, List.set_cons_succ]
          refine wpList_load_mid rfl 81 (.tmp 48) rfl gi (j * 35) rfl Y _ HRI.out rfl rfl (by rw [HYL.out]; kernel_rfl) ?_
          try simp only [Act.put, List.setIfInBounds_toArray, List.set_cons_zero, List.set_cons_succ]
          refine wpList_rowOne rfl 49 81 (.tmp 49) rfl (.agg Y.toArray) rfl Try.underlying49 _ HB1.out ?_
          try simp only [Act.put, List.setIfInBounds_toArray, List.set_cons_zero, List.set_cons_succ]
          refine wpList_catG rfl (flatI [y]) 35 1 (.tmp 44) (.tmp 50) 49 81 _ 56 Try.underlying49 info_ritem rfl (by decide) rfl rfl ⟨wr.heap.size, 0, none⟩ 1 rfl (World.ownsRow.alloc (show wr.ownsRow w.heap.size 81 35 (.slice Al (j - a) cl) (j - a) (flatI ((r.x.L.take j).drop a)) from by have := HT.out.left; unfold OwI at this; rw [HAL.out.2] at this; exact this) _) (Nat.le_trans HT.out.bel.size (by simp)) (flatI_length _) (news_new wr _ _) (flatI_each _) (by omega) (by omega) ?_
          intro A' c' Y2 hown hgr hat
          have HT2 := Lib.hid (show TL w B G x N R (some ⟨g, 0, none⟩) c last #[.int .u64 (r.id : Nat), .slice r.A m r.c, .int .u64 (l : Nat)] (r.x.L.take a) Ao co ((r.x.L.take (j + 1)).drop a) A' c' Y2 from by
            have e1 : (r.x.L.take (j + 1)).drop a = (r.x.L.take j).drop a ++ [y] := by rw [HTK.out, List.drop_append_of_le_length (by rw [List.length_take, HM.out.1]; omega)]
            rw [e1]
            exact (HT.out.swap.pushOut HXL.out HLO.out (by rw [HAL.out.2]; exact hown) hgr hat).swap)
          clear hown hgr hat HT HB1 HRI
          try simp only [Act.put, List.setIfInBounds_toArray, List.set_cons_zero, List.set_cons_succ]
          go_wp2_with fail
          go_roundw
          case rel => exact ⟨j + 1, a, j + 1 - a, Ao, A', co, c', by omega, by omega, rfl, by rw [show j + 1 - a = j - a + 1 by omega], by go_num, HT2.out⟩
          case measure => simp [intOf]; omega
      · obtain rfl : j = m := by omega
        obtain ⟨rfl, rfl⟩ : a = k ∧ b = j - k := by omega
        have HTF := Lib.hid (show TL w B G x N R (some ⟨g, 0, none⟩) c last #[.int .u64 (r.id : Nat), .slice r.A j r.c, .int .u64 (l : Nat)] (r.x.L.take a) Ao co (r.x.L.drop a) Al cl wr from by
          have := HT.out
          rw [List.take_of_length_le (l := r.x.L) (i := j) (by rw [HM.out.1]; exact Nat.le_refl _)] at this
          exact this)
        have hNw : w.heap.size ≤ N := by rw [HNW.out]; exact Nat.le_refl _
        clear HT
        by_cases hgap : 0 < l ∧ (a : Int) < q
        · obtain ⟨hl0, haq⟩ := hgap
          have HTA := Lib.hid (show takeL r.x q = r.x.L.take a ++ [⟨noEv, l⟩] from by
            unfold takeL gapL
            rw [HM.out.1, HM.out.2.1, HM.out.2.2, if_pos haq, if_pos hl0])
          have HTB := Lib.hid (show takeW r.x q = ⟨r.x.L.drop a, 0⟩ from by
            unfold takeW
            rw [HM.out.1, HM.out.2.1, if_pos haq])
          have HBG := Lib.hid (item_gap25 l)
          have HB1 := Lib.hid (row_one25 ⟨noEv, l⟩)
          obtain ⟨J, hJ⟩ : ∃ J, (itL ⟨noEv, l⟩).toArray = J := ⟨_, rfl⟩
          rw [hJ] at HBG HB1
          have hl0' : (0 : Int) < (l : Int) := by omega
          clear hJ
          go_upto_region 13 with fail
          have hT1 := HTF.out.set hNw HGW.out 1 (.slice Al (j - a) cl)
          refine cut_world (fun X => TL w B G x N R (some ⟨g, 0, none⟩) c last #[.int .u64 (r.id : Nat), .slice Al (j - a) cl, .int .u64 (l : Nat)] (r.x.L.take a) Ao co (r.x.L.drop a) Al cl X) hT1 ?_
          clear hT1 HTF c1 c2 f1
          intro X hX
          have HX := Lib.hid hX
          have c2 : X.cell? ⟨N, 2, none⟩ = some (.int .u64 (l : Nat)) := hX.box.cell 2
          clear hX
          go_upto_region 14 with fail
          apply wp_region_lit
          refine Ops.wpList_value_if (by rfl) _ (by go_simp; try with_reducible rfl) ?_
          try simp only [Act.put, List.setIfInBounds_toArray, List.set_cons_zero, List.set_cons_succ]
          refine Ops.wpList_value_if (by rfl) _ (by go_simp; try with_reducible rfl) ?_
          try simp only [Act.put, List.setIfInBounds_toArray, List.set_cons_zero, List.set_cons_succ]
          refine Ops.wpList_value_if (by rfl) _ (by go_simp; try with_reducible rfl) ?_
          try simp only [Act.put, List.setIfInBounds_toArray, List.set_cons_zero, List.set_cons_succ]
          refine wpList_built1 rfl 81 1 (.tmp 65) rfl (.int .u64 (l : Nat)) rfl J HBG.out ?_
          try simp only [Act.put, List.setIfInBounds_toArray, List.set_cons_zero, List.set_cons_succ]
          refine wpList_rowOne rfl 49 81 (.tmp 66) rfl (.agg J) rfl Try.underlying49 _ HB1.out ?_
          try simp only [Act.put, List.setIfInBounds_toArray, List.set_cons_zero, List.set_cons_succ]
          refine wpList_catG rfl (flatI [⟨noEv, l⟩]) 35 1 (.tmp 63) (.tmp 67) 49 81 _ 56 Try.underlying49 info_ritem rfl (by decide) rfl rfl ⟨X.heap.size, 0, none⟩ 1 rfl (World.ownsRow.alloc (show X.ownsRow w.heap.size 81 35 (.slice Ao a co) a (flatI (r.x.L.take a)) from by have := HX.out.out; unfold OwI at this; rw [HAL.out.1] at this; exact this) _) (Nat.le_trans HX.out.bel.size (by simp)) (flatI_length _) (news_new X _ _) (flatI_each _) (by omega) (by omega) ?_
          intro A' c' Y2 hown hgr hat
          have hT2 := HX.out.pushOut HXL.out HLO.out (by rw [HAL.out.1]; exact hown) hgr hat
          have HT2 := Lib.hid hT2
          have f2 : Y2.frozen? ⟨N, 2, none⟩ = false := hT2.box.free 2
          have c2 : Y2.cell? ⟨N, 2, none⟩ = some (.int .u64 (l : Nat)) := hT2.box.cell 2
          clear hown hgr hat hT2 HX HBG HB1
          try simp only [Act.put, List.setIfInBounds_toArray, List.set_cons_zero, List.set_cons_succ]
          go_upto_region 16 with fail
          have hT3 := HT2.out.set hNw HGW.out 2 (.int .u64 0)
          refine cut_world (fun X => TL w B G x N R (some ⟨g, 0, none⟩) c last #[.int .u64 (r.id : Nat), .slice Al (j - a) cl, .int .u64 (0 : Nat)] (r.x.L.take a ++ ([⟨noEv, l⟩] : List It)) A' c' (r.x.L.drop a) Al cl X) hT3 ?_
          clear hT3 HT2 c2 f2
          intro Q hT3
          replace hT3 := hT3.keep (Below.drew (Below.refl _ _))
          have HT3 := Lib.hid hT3
          clear hT3
          refine region_drew (fun V => Whole V x 29 #[.slice (some ⟨g, 0, none⟩) n c, .int .u64 (last : Nat)] ∧ Whole V N 58 #[.int .u64 (r.id : Nat), .slice Al (j - a) cl, .int .u64 (0 : Nat)]) (by kernel_rfl) ⟨by have := HT3.out.rw_.obj; rw [HN.out] at this; exact this, HT3.out.box⟩ (fun hS => ?_)
          refine take 0 _ rfl (by kernel_rfl) (by kernel_rfl) (by kernel_rfl) (fun _ _ _ h => h) (by rfl) hS (by intro w _; go_simp; with_reducible rfl) ?_
          try simp only [Act.put, List.setIfInBounds_toArray, List.set_cons_zero, List.set_cons_succ]
          refine take 1 _ rfl (by kernel_rfl) (by kernel_rfl) (by kernel_rfl) (fun _ _ _ h => h) (by rfl) hS (by intro w _; go_simp; with_reducible rfl) ?_
          try simp only [Act.put, List.setIfInBounds_toArray, List.set_cons_zero, List.set_cons_succ]
          refine take 2 _ rfl (by kernel_rfl) (by kernel_rfl) (by kernel_rfl) (fun _ _ _ h => h) (by rfl) hS (by intro w _; go_simp; with_reducible rfl) ?_
          try simp only [Act.put, List.setIfInBounds_toArray, List.set_cons_zero, List.set_cons_succ]
          refine take 3 _ rfl (by kernel_rfl) (by kernel_rfl) (by kernel_rfl) (fun _ _ _ h => h) (by rfl) hS (by intro w hw; have hcl := hw.1.cell 0; go_simp; with_reducible rfl) ?_
          try simp only [Act.put, List.setIfInBounds_toArray, List.set_cons_zero, List.set_cons_succ]
          refine take 4 _ rfl (by kernel_rfl) (by kernel_rfl) (by kernel_rfl) (fun _ _ _ h => h) (by rfl) hS (by intro w _; go_simp; with_reducible rfl) ?_
          try simp only [Act.put, List.setIfInBounds_toArray, List.set_cons_zero, List.set_cons_succ]
          refine take 5 (.agg #[.int .u64 (r.id : Nat), .slice Al (j - a) cl, .int .u64 (0 : Nat)]) rfl (by kernel_rfl) (by kernel_rfl) (by kernel_rfl) (fun _ _ _ h => h) (by rfl) hS (fun w hw => run_load_in 58 (.tmp 9) rfl N rfl #[.int .u64 (r.id : Nat), .slice Al (j - a) cl, .int .u64 (0 : Nat)] 3 rfl hw.2 rfl rfl (by kernel_rfl)) ?_
          try simp only [Act.put, List.setIfInBounds_toArray, List.set_cons_zero, List.set_cons_succ]
          refine alone_run 6 _ rfl (by kernel_rfl) (by rfl) hS (by go_simp; try with_reducible rfl) ?_
          try simp only [Act.put, List.setIfInBounds_toArray, List.set_cons_zero, List.set_cons_succ]
          have hdl : (r.x.L.drop a).length = j - a := by rw [List.length_drop, HM.out.1]
          have hrr : rrL ⟨r.id, Al, cl, ⟨r.x.L.drop a, 0⟩⟩ = [.int .u64 (r.id : Nat), .slice Al (j - a) cl, .int .u64 (0 : Nat)] := by unfold rrL RR.v; rw [hdl]
          have hth : Q.drew.there g (i * 3) 3 := by
            obtain ⟨g2, e2, _, _, hth⟩ := HT3.out.rw_.cell HR.out
            injection e2 with e2
            injection e2 with e2
            subst e2
            exact hth
          obtain ⟨cr, hcr⟩ := own_type HT3.out.rw_.row (j := g) rfl
          have hg3 := grown_set3 Q.drew g (i * 3) (.int .u64 (r.id : Nat)) (.slice Al (j - a) cl) (.int .u64 (0 : Nat))
          have HE := Lib.hid (show OwI (Q.drew.setCells g (i * 3) [.int .u64 (r.id : Nat), .slice Al (j - a) cl, .int .u64 (0 : Nat)]) B A' c' (takeL r.x q) ∧ RFk w (Q.drew.setCells g (i * 3) [.int .u64 (r.id : Nat), .slice Al (j - a) cl, .int .u64 (0 : Nat)]) B G x (putS (stR R) r.id (takeW r.x q)) last from by
            refine ⟨?_, ?_⟩
            · rw [HTA.out]
              have h0 := own_more' HT3.out.out (Nat.le_trans H.out.bx (Nat.le_of_lt H.out.obj.lt))
              exact own_keep2 h0 fun jj cs _ hw => (hg3.block jj hw.lt (fun e => by injection e with e; subst e; exact absurd (whole_type hw hcr) (by decide))).trans hw
            · rw [HTB.out, putS_set (i := i) (y := r.x) HND.out (by unfold stR; rw [List.getElem?_map, HR.out]; rfl)]
              have h1 := H.out.turn (Y := Q.drew) HG.out HR.out (r' := ⟨r.id, Al, cl, ⟨r.x.L.drop a, 0⟩⟩) (own_more' HT3.out.left (Nat.le_trans H.out.bx (Nat.le_of_lt H.out.obj.lt))) ⟨HT3.out.bel.os, HT3.out.bel.tape, HT3.out.bel.output, HT3.out.bel.size, fun jj hjj _ => HT3.out.bel.block jj hjj⟩ (fun jj hjj => .inr (own_blk HT3.out.left jj hjj)) (Nat.le_trans H.out.bx (Nat.le_of_lt H.out.obj.lt))
              rw [stR_set, hrr] at h1
              exact h1)
          have HSZ := Lib.hid (show Whole (Q.drew.setCells g (i * 3) [.int .u64 (r.id : Nat), .slice Al (j - a) cl, .int .u64 (0 : Nat)]) x 29 #[.slice (some ⟨g, 0, none⟩) n c, .int .u64 (last : Nat)] ∧ Whole (Q.drew.setCells g (i * 3) [.int .u64 (r.id : Nat), .slice Al (j - a) cl, .int .u64 (0 : Nat)]) N 58 #[.int .u64 (r.id : Nat), .slice Al (j - a) cl, .int .u64 (0 : Nat)] from by
            refine ⟨(hg3.block x hS.1.lt (fun e => by injection e with e; rw [← e] at hcr; exact absurd (whole_type hcr HT3.out.rw_.obj) (by decide))).trans hS.1, (hg3.block N hS.2.lt (fun e => by injection e with e; have := HGW.out; have := HNW.out; omega)).trans hS.2⟩)
          have HTH := Lib.hid hth
          clear hdl hrr hth hcr hg3
          refine alone 7 rfl (by kernel_rfl) (by rfl) ?_
          intro K hK
          refine wp_store_mid 58 (.tmp 76) (.tmp 75) rfl g (i * 3) #[.int .u64 (r.id : Nat), .slice Al (j - a) cl, .int .u64 (0 : Nat)] rfl rfl HTH.out (by kernel_rfl) (by simp [Value.oneCell']) ?_
          refine hK.out _ _ HSZ.out ?_
          clear hK K hS
          try simp only [Act.put]
          refine region_end (by kernel_rfl) ?_
          clear HTH HSZ HT3
          go_wp2_with fail
          go_ret2
          refine Or.inl ⟨r.x, A', c', HAT.out, ?_, HE.out⟩
          rw [HTA.out, (show (r.x.L.take a ++ ([⟨noEv, l⟩] : List It)).length = a + 1 from by rw [List.length_append, HAL.out.1]; rfl)]
          rfl
        · have HTA := Lib.hid (show takeL r.x q = r.x.L.take a from by
            unfold takeL gapL
            rw [HM.out.1, HM.out.2.1, HM.out.2.2]
            by_cases haq : (a : Int) < q
            · rw [if_pos haq, if_neg (fun h => hgap ⟨h, haq⟩), List.append_nil]
            · rw [if_neg haq, List.append_nil])
          have HTB := Lib.hid (show takeW r.x q = ⟨r.x.L.drop a, l⟩ from by
            unfold takeW
            rw [HM.out.1, HM.out.2.1, HM.out.2.2]
            by_cases haq : (a : Int) < q
            · rw [if_pos haq, show l = 0 from by have := fun h => hgap ⟨h, haq⟩; omega]
            · rw [if_neg haq])
          go_upto_region 13 with fail
          have hT1 := HTF.out.set hNw HGW.out 1 (.slice Al (j - a) cl)
          refine cut_world (fun X => TL w B G x N R (some ⟨g, 0, none⟩) c last #[.int .u64 (r.id : Nat), .slice Al (j - a) cl, .int .u64 (l : Nat)] (r.x.L.take a) Ao co (r.x.L.drop a) Al cl X) hT1 ?_
          clear hT1 HTF c1 c2 f1
          intro Q hT3
          have c2 : Q.cell? ⟨N, 2, none⟩ = some (.int .u64 (l : Nat)) := hT3.box.cell 2
          by_cases hl0 : 0 < l
          · have haq : ¬ (a : Int) < q := fun c => hgap ⟨hl0, c⟩
            have hl0' : (0 : Int) < (l : Int) := by omega
            clear hgap
            go_upto_region 16 with fail
            clear c2
            replace hT3 := hT3.keep (Below.drew (Below.refl _ _))
            have HT3 := Lib.hid hT3
            clear hT3
            refine region_drew (fun V => Whole V x 29 #[.slice (some ⟨g, 0, none⟩) n c, .int .u64 (last : Nat)] ∧ Whole V N 58 #[.int .u64 (r.id : Nat), .slice Al (j - a) cl, .int .u64 (l : Nat)]) (by kernel_rfl) ⟨by have := HT3.out.rw_.obj; rw [HN.out] at this; exact this, HT3.out.box⟩ (fun hS => ?_)
            refine take 0 _ rfl (by kernel_rfl) (by kernel_rfl) (by kernel_rfl) (fun _ _ _ h => h) (by rfl) hS (by intro w _; go_simp; with_reducible rfl) ?_
            try simp only [Act.put, List.setIfInBounds_toArray, List.set_cons_zero, List.set_cons_succ]
            refine take 1 _ rfl (by kernel_rfl) (by kernel_rfl) (by kernel_rfl) (fun _ _ _ h => h) (by rfl) hS (by intro w _; go_simp; with_reducible rfl) ?_
            try simp only [Act.put, List.setIfInBounds_toArray, List.set_cons_zero, List.set_cons_succ]
            refine take 2 _ rfl (by kernel_rfl) (by kernel_rfl) (by kernel_rfl) (fun _ _ _ h => h) (by rfl) hS (by intro w _; go_simp; with_reducible rfl) ?_
            try simp only [Act.put, List.setIfInBounds_toArray, List.set_cons_zero, List.set_cons_succ]
            refine take 3 _ rfl (by kernel_rfl) (by kernel_rfl) (by kernel_rfl) (fun _ _ _ h => h) (by rfl) hS (by intro w hw; have hcl := hw.1.cell 0; go_simp; with_reducible rfl) ?_
            try simp only [Act.put, List.setIfInBounds_toArray, List.set_cons_zero, List.set_cons_succ]
            refine take 4 _ rfl (by kernel_rfl) (by kernel_rfl) (by kernel_rfl) (fun _ _ _ h => h) (by rfl) hS (by intro w _; go_simp; with_reducible rfl) ?_
            try simp only [Act.put, List.setIfInBounds_toArray, List.set_cons_zero, List.set_cons_succ]
            refine take 5 (.agg #[.int .u64 (r.id : Nat), .slice Al (j - a) cl, .int .u64 (l : Nat)]) rfl (by kernel_rfl) (by kernel_rfl) (by kernel_rfl) (fun _ _ _ h => h) (by rfl) hS (fun w hw => run_load_in 58 (.tmp 9) rfl N rfl #[.int .u64 (r.id : Nat), .slice Al (j - a) cl, .int .u64 (l : Nat)] 3 rfl hw.2 rfl rfl (by kernel_rfl)) ?_
            try simp only [Act.put, List.setIfInBounds_toArray, List.set_cons_zero, List.set_cons_succ]
            refine alone_run 6 _ rfl (by kernel_rfl) (by rfl) hS (by go_simp; try with_reducible rfl) ?_
            try simp only [Act.put, List.setIfInBounds_toArray, List.set_cons_zero, List.set_cons_succ]
            have hdl : (r.x.L.drop a).length = j - a := by rw [List.length_drop, HM.out.1]
            have hrr : rrL ⟨r.id, Al, cl, ⟨r.x.L.drop a, l⟩⟩ = [.int .u64 (r.id : Nat), .slice Al (j - a) cl, .int .u64 (l : Nat)] := by unfold rrL RR.v; rw [hdl]
            have hth : Q.drew.there g (i * 3) 3 := by
              obtain ⟨g2, e2, _, _, hth⟩ := HT3.out.rw_.cell HR.out
              injection e2 with e2
              injection e2 with e2
              subst e2
              exact hth
            obtain ⟨cr, hcr⟩ := own_type HT3.out.rw_.row (j := g) rfl
            have hg3 := grown_set3 Q.drew g (i * 3) (.int .u64 (r.id : Nat)) (.slice Al (j - a) cl) (.int .u64 (l : Nat))
            have HE := Lib.hid (show OwI (Q.drew.setCells g (i * 3) [.int .u64 (r.id : Nat), .slice Al (j - a) cl, .int .u64 (l : Nat)]) B Ao co (takeL r.x q) ∧ RFk w (Q.drew.setCells g (i * 3) [.int .u64 (r.id : Nat), .slice Al (j - a) cl, .int .u64 (l : Nat)]) B G x (putS (stR R) r.id (takeW r.x q)) last from by
              refine ⟨?_, ?_⟩
              · rw [HTA.out]
                have h0 := own_more' HT3.out.out (Nat.le_trans H.out.bx (Nat.le_of_lt H.out.obj.lt))
                exact own_keep2 h0 fun jj cs _ hw => (hg3.block jj hw.lt (fun e => by injection e with e; subst e; exact absurd (whole_type hw hcr) (by decide))).trans hw
              · rw [HTB.out, putS_set (i := i) (y := r.x) HND.out (by unfold stR; rw [List.getElem?_map, HR.out]; rfl)]
                have h1 := H.out.turn (Y := Q.drew) HG.out HR.out (r' := ⟨r.id, Al, cl, ⟨r.x.L.drop a, l⟩⟩) (own_more' HT3.out.left (Nat.le_trans H.out.bx (Nat.le_of_lt H.out.obj.lt))) ⟨HT3.out.bel.os, HT3.out.bel.tape, HT3.out.bel.output, HT3.out.bel.size, fun jj hjj _ => HT3.out.bel.block jj hjj⟩ (fun jj hjj => .inr (own_blk HT3.out.left jj hjj)) (Nat.le_trans H.out.bx (Nat.le_of_lt H.out.obj.lt))
                rw [stR_set, hrr] at h1
                exact h1)
            have HSZ := Lib.hid (show Whole (Q.drew.setCells g (i * 3) [.int .u64 (r.id : Nat), .slice Al (j - a) cl, .int .u64 (l : Nat)]) x 29 #[.slice (some ⟨g, 0, none⟩) n c, .int .u64 (last : Nat)] ∧ Whole (Q.drew.setCells g (i * 3) [.int .u64 (r.id : Nat), .slice Al (j - a) cl, .int .u64 (l : Nat)]) N 58 #[.int .u64 (r.id : Nat), .slice Al (j - a) cl, .int .u64 (l : Nat)] from by
              refine ⟨(hg3.block x hS.1.lt (fun e => by injection e with e; rw [← e] at hcr; exact absurd (whole_type hcr HT3.out.rw_.obj) (by decide))).trans hS.1, (hg3.block N hS.2.lt (fun e => by injection e with e; have := HGW.out; have := HNW.out; omega)).trans hS.2⟩)
            have HTH := Lib.hid hth
            clear hdl hrr hth hcr hg3
            refine alone 7 rfl (by kernel_rfl) (by rfl) ?_
            intro K hK
            refine wp_store_mid 58 (.tmp 76) (.tmp 75) rfl g (i * 3) #[.int .u64 (r.id : Nat), .slice Al (j - a) cl, .int .u64 (l : Nat)] rfl rfl HTH.out (by kernel_rfl) (by simp [Value.oneCell']) ?_
            refine hK.out _ _ HSZ.out ?_
            clear hK K hS
            try simp only [Act.put]
            refine region_end (by kernel_rfl) ?_
            clear HTH HSZ HT3
            go_wp2_with fail
            go_ret2
            refine Or.inl ⟨r.x, Ao, co, HAT.out, ?_, HE.out⟩
            rw [HTA.out, HAL.out.1]
            rfl
          · obtain rfl : l = 0 := by omega
            clear hgap
            go_upto_region 16 with fail
            clear c2
            replace hT3 := hT3.keep (Below.drew (Below.refl _ _))
            have HT3 := Lib.hid hT3
            clear hT3
            refine region_drew (fun V => Whole V x 29 #[.slice (some ⟨g, 0, none⟩) n c, .int .u64 (last : Nat)] ∧ Whole V N 58 #[.int .u64 (r.id : Nat), .slice Al (j - a) cl, .int .u64 (0 : Nat)]) (by kernel_rfl) ⟨by have := HT3.out.rw_.obj; rw [HN.out] at this; exact this, HT3.out.box⟩ (fun hS => ?_)
            refine take 0 _ rfl (by kernel_rfl) (by kernel_rfl) (by kernel_rfl) (fun _ _ _ h => h) (by rfl) hS (by intro w _; go_simp; with_reducible rfl) ?_
            try simp only [Act.put, List.setIfInBounds_toArray, List.set_cons_zero, List.set_cons_succ]
            refine take 1 _ rfl (by kernel_rfl) (by kernel_rfl) (by kernel_rfl) (fun _ _ _ h => h) (by rfl) hS (by intro w _; go_simp; with_reducible rfl) ?_
            try simp only [Act.put, List.setIfInBounds_toArray, List.set_cons_zero, List.set_cons_succ]
            refine take 2 _ rfl (by kernel_rfl) (by kernel_rfl) (by kernel_rfl) (fun _ _ _ h => h) (by rfl) hS (by intro w _; go_simp; with_reducible rfl) ?_
            try simp only [Act.put, List.setIfInBounds_toArray, List.set_cons_zero, List.set_cons_succ]
            refine take 3 _ rfl (by kernel_rfl) (by kernel_rfl) (by kernel_rfl) (fun _ _ _ h => h) (by rfl) hS (by intro w hw; have hcl := hw.1.cell 0; go_simp; with_reducible rfl) ?_
            try simp only [Act.put, List.setIfInBounds_toArray, List.set_cons_zero, List.set_cons_succ]
            refine take 4 _ rfl (by kernel_rfl) (by kernel_rfl) (by kernel_rfl) (fun _ _ _ h => h) (by rfl) hS (by intro w _; go_simp; with_reducible rfl) ?_
            try simp only [Act.put, List.setIfInBounds_toArray, List.set_cons_zero, List.set_cons_succ]
            refine take 5 (.agg #[.int .u64 (r.id : Nat), .slice Al (j - a) cl, .int .u64 (0 : Nat)]) rfl (by kernel_rfl) (by kernel_rfl) (by kernel_rfl) (fun _ _ _ h => h) (by rfl) hS (fun w hw => run_load_in 58 (.tmp 9) rfl N rfl #[.int .u64 (r.id : Nat), .slice Al (j - a) cl, .int .u64 (0 : Nat)] 3 rfl hw.2 rfl rfl (by kernel_rfl)) ?_
            try simp only [Act.put, List.setIfInBounds_toArray, List.set_cons_zero, List.set_cons_succ]
            refine alone_run 6 _ rfl (by kernel_rfl) (by rfl) hS (by go_simp; try with_reducible rfl) ?_
            try simp only [Act.put, List.setIfInBounds_toArray, List.set_cons_zero, List.set_cons_succ]
            have hdl : (r.x.L.drop a).length = j - a := by rw [List.length_drop, HM.out.1]
            have hrr : rrL ⟨r.id, Al, cl, ⟨r.x.L.drop a, 0⟩⟩ = [.int .u64 (r.id : Nat), .slice Al (j - a) cl, .int .u64 (0 : Nat)] := by unfold rrL RR.v; rw [hdl]
            have hth : Q.drew.there g (i * 3) 3 := by
              obtain ⟨g2, e2, _, _, hth⟩ := HT3.out.rw_.cell HR.out
              injection e2 with e2
              injection e2 with e2
              subst e2
              exact hth
            obtain ⟨cr, hcr⟩ := own_type HT3.out.rw_.row (j := g) rfl
            have hg3 := grown_set3 Q.drew g (i * 3) (.int .u64 (r.id : Nat)) (.slice Al (j - a) cl) (.int .u64 (0 : Nat))
            have HE := Lib.hid (show OwI (Q.drew.setCells g (i * 3) [.int .u64 (r.id : Nat), .slice Al (j - a) cl, .int .u64 (0 : Nat)]) B Ao co (takeL r.x q) ∧ RFk w (Q.drew.setCells g (i * 3) [.int .u64 (r.id : Nat), .slice Al (j - a) cl, .int .u64 (0 : Nat)]) B G x (putS (stR R) r.id (takeW r.x q)) last from by
              refine ⟨?_, ?_⟩
              · rw [HTA.out]
                have h0 := own_more' HT3.out.out (Nat.le_trans H.out.bx (Nat.le_of_lt H.out.obj.lt))
                exact own_keep2 h0 fun jj cs _ hw => (hg3.block jj hw.lt (fun e => by injection e with e; subst e; exact absurd (whole_type hw hcr) (by decide))).trans hw
              · rw [HTB.out, putS_set (i := i) (y := r.x) HND.out (by unfold stR; rw [List.getElem?_map, HR.out]; rfl)]
                have h1 := H.out.turn (Y := Q.drew) HG.out HR.out (r' := ⟨r.id, Al, cl, ⟨r.x.L.drop a, 0⟩⟩) (own_more' HT3.out.left (Nat.le_trans H.out.bx (Nat.le_of_lt H.out.obj.lt))) ⟨HT3.out.bel.os, HT3.out.bel.tape, HT3.out.bel.output, HT3.out.bel.size, fun jj hjj _ => HT3.out.bel.block jj hjj⟩ (fun jj hjj => .inr (own_blk HT3.out.left jj hjj)) (Nat.le_trans H.out.bx (Nat.le_of_lt H.out.obj.lt))
                rw [stR_set, hrr] at h1
                exact h1)
            have HSZ := Lib.hid (show Whole (Q.drew.setCells g (i * 3) [.int .u64 (r.id : Nat), .slice Al (j - a) cl, .int .u64 (0 : Nat)]) x 29 #[.slice (some ⟨g, 0, none⟩) n c, .int .u64 (last : Nat)] ∧ Whole (Q.drew.setCells g (i * 3) [.int .u64 (r.id : Nat), .slice Al (j - a) cl, .int .u64 (0 : Nat)]) N 58 #[.int .u64 (r.id : Nat), .slice Al (j - a) cl, .int .u64 (0 : Nat)] from by
              refine ⟨(hg3.block x hS.1.lt (fun e => by injection e with e; rw [← e] at hcr; exact absurd (whole_type hcr HT3.out.rw_.obj) (by decide))).trans hS.1, (hg3.block N hS.2.lt (fun e => by injection e with e; have := HGW.out; have := HNW.out; omega)).trans hS.2⟩)
            have HTH := Lib.hid hth
            clear hdl hrr hth hcr hg3
            refine alone 7 rfl (by kernel_rfl) (by rfl) ?_
            intro K hK
            refine wp_store_mid 58 (.tmp 76) (.tmp 75) rfl g (i * 3) #[.int .u64 (r.id : Nat), .slice Al (j - a) cl, .int .u64 (0 : Nat)] rfl rfl HTH.out (by kernel_rfl) (by simp [Value.oneCell']) ?_
            refine hK.out _ _ HSZ.out ?_
            clear hK K hS
            try simp only [Act.put]
            refine region_end (by kernel_rfl) ?_
            clear HTH HSZ HT3
            go_wp2_with fail
            go_ret2
            refine Or.inl ⟨r.x, Ao, co, HAT.out, ?_, HE.out⟩
            rw [HTA.out, HAL.out.1]
            rfl
  · have HE := Lib.hid (at_none_of hno)
    clear hno
    go_wp2_with fail
    go_ret2
    exact Or.inr ⟨HE.out, rfl, rfl⟩
end Fee
end Go.Proofs.Ytlbfjdpcnnplnaa
