/- The walk of FeedLives. -/
import Derived.Test.YtlbfjdpcnnplnaaFeedApart
import Derived.Test.YtlbfjdpcnnplnaaFdSame
import Derived.Test.YtlbfjdpcnnplnaaRfTake2
namespace Go.Proofs.Ytlbfjdpcnnplnaa
namespace FeedLives
open Go.ChangeShapes Go.WideShapes Go.ChangeAt Go.RowKit Go.Maps
open Num Mem Words Chacha Aead Poly Quiet RowV RowS Fee
open FeedApart (Dj Dj.symm FB.fk OwE.fk lost_take)

/-- the two feeds, apart -/
structure P2 (B : Nat) (X : World) (F G : Nat → Prop) (g x : Nat) (S : St) (last : Nat) (S2 : St) (last2 : Nat) : Prop where
  f : FB B X F g S last
  r : RF X B G x S2 last2
  d : Dj F G
theorem rf_lt {X : World} {B x last : Nat} {G : Nat → Prop} {S : St} (h : RF X B G x S last) : ∀ i, G i → B ≤ i ∧ i < X.heap.size := by
  obtain ⟨R, A, c, h1, h2, h3⟩ := h
  exact h3
section
variable {B : Nat} {X Y Z : World} {F G F' : Nat → Prop} {g x last last' last2 : Nat} {S S' S2 : St}
theorem P2.below (h : P2 B X F G g x S last S2 last2) (hb : Below X.heap.size X Y) : P2 B Y F G g x S last S2 last2 := ⟨h.f.below hb, h.r.below hb, h.d⟩
/-- a call of the package's own -/
theorem P2.left (h : P2 B X F G g x S last S2 last2) (hf : FB B Y F' g S' last') (hk : Fk F X Y) (hF' : ∀ i, F' i → F i ∨ X.heap.size ≤ i) : P2 B Y F' G g x S' last' S2 last2 :=
  ⟨hf, h.r.fk hk h.d.symm, fun i h1 h2 => (hF' i h1).elim (fun c => h.d i c h2) (fun c => by have := (rf_lt h.r i h2).2; omega)⟩
/-- a call of the document's -/
theorem P2.right (h : P2 B Y F G g x S last S2 last2) (hr : RFk Y Z B G x S' last') : ∃ G', P2 B Z F G' g x S last S' last' := by
  obtain ⟨G', h1, h2, h3⟩ := hr
  exact ⟨G', FB.fk h.f h3 h.d, h1, fun i hi hg => h.d i hi (h2 i (h.f.2 i hi).2 hg)⟩
theorem P2.bl (h : P2 B X F G g x S last S2 last2) (hB : B ≤ X.heap.size) (hk : Fk F X Y) : Below B X Y := hk.below hB fun i hi => (h.f.2 i hi).1
theorem P2.br (h : P2 B X F G g x S last S2 last2) (hB : B ≤ X.heap.size) (hr : RFk X Y B G x S' last') : Below B X Y := by
  obtain ⟨G', h1, h2, h3⟩ := hr
  exact h3.below hB fun i hi => (rf_lt h.r i hi).1
end
/-- how far the numbers go -/
structure Bd (S : St) (last v k : Nat) : Prop where
  len : S.length ≤ 8
  lk : last ≤ k
  vk : v ≤ 1 + 40 * k
  lost : ∀ p ∈ S, p.2.lost ≤ v
theorem Bd.next {S : St} {last v k : Nat} (h : Bd S last v k) : Bd S last v (k + 1) := ⟨h.len, Nat.le_succ_of_le h.lk, by have := h.vk; omega, h.lost⟩
theorem Bd.watch {S : St} {last v k : Nat} (h : Bd S last v k) (hS : S.length < 8) : Bd (S ++ [(last + 1, ⟨[], 0⟩)]) (last + 1) v (k + 1) :=
  ⟨by rw [List.length_append, List.length_singleton]; omega, by have := h.lk; omega, by have := h.vk; omega, fun p hp => (List.mem_append.1 hp).elim (h.lost p) (fun c => by rw [List.mem_singleton.1 c]; exact Nat.zero_le _)⟩
theorem Bd.leave {S : St} {last v k : Nat} (h : Bd S last v k) (id : Nat) : Bd (leaveS S id) last v (k + 1) :=
  ⟨Nat.le_trans (List.length_filter_le _ _) h.len, by have := h.lk; omega, by have := h.vk; omega, fun p hp => h.lost p (List.mem_filter.1 hp).1⟩
theorem Bd.push {S : St} {last v k : Nat} (h : Bd S last v k) (l : List Ev) (hl : l.length ≤ 40) : Bd (pushS S l) last (v + l.length) (k + 1) :=
  ⟨by rw [show (pushS S l).length = S.length from List.length_map _]; exact h.len, by have := h.lk; omega, by have := h.vk; omega, fun p hp => by
    obtain ⟨q, hq, rfl⟩ := List.mem_map.1 hp
    have h1 := h.lost q hq
    have h2 := pushAll_lost l q.2
    show (pushAll q.2 l).lost ≤ _
    omega⟩
theorem Bd.take {S : St} {last v k id : Nat} (h : Bd S last v k) {y : Wt} (hy : at_ S id = some y) (n : Int) : Bd (putS S id (takeW y n)) last v (k + 1) :=
  ⟨by rw [size_putS]; exact h.len, by have := h.lk; omega, by have := h.vk; omega, fun p hp => by
    obtain ⟨j, z⟩ := p
    rcases mem_put hp with ⟨_, rfl⟩ | ⟨_, hp⟩
    · exact Nat.le_trans (lost_take y n) (h.lost (id, y) (at_mem hy))
    · exact h.lost _ hp⟩
/-- the loop's world -/
structure LvW (w : World) (A : Option Addr) (N : Nat) (Q : Nat → OpV) (g x v k : Nat) (S : St) (last : Nat) (X : World) : Prop where
  bel : Below w.heap.size w X
  ops : IsOps w.heap.size X A N Q
  p2 : ∃ F G, P2 w.heap.size X F G g x S last S last
  bd : Bd S last v k
theorem LvW.below {w : World} {A : Option Addr} {N : Nat} {Q : Nat → OpV} {g x v k : Nat} {S : St} {last : Nat} {X Y : World} (h : LvW w A N Q g x v k S last X) (hb : Below X.heap.size X Y) : LvW w A N Q g x v k S last Y := by
  obtain ⟨h1, h2, ⟨F, G, h3⟩, h4⟩ := h
  exact ⟨below_trans h1 hb, h2.below (hb.mono h1.size), ⟨F, G, h3.below hb⟩, h4⟩
theorem rfeed_zero : Try.prog.built 29 [] = some #[.slice none 0 0, .int .u64 0] := by kernel_rfl
theorem rf_new {w : World} {B : Nat} (hB : B ≤ w.heap.size) : RF (w.alloc (.cells #[.slice none 0 0, .int .u64 0] 29)) B (fun i => i = w.heap.size) w.heap.size [] 0 :=
  ⟨[], none, 0, ⟨Whole.new _ _ _, ⟨rfl, .inl ⟨rfl, rfl⟩⟩, fun r hr => (by cases hr), List.Pairwise.nil, rfl, fun j hj => (by cases hj), fun r hr => (by cases hr), hB⟩, rfl, fun i hi => ⟨by rw [hi]; exact hB, by rw [hi]; simp⟩⟩
theorem P2.other {B : Nat} {X Y : World} {F G : Nat → Prop} {g x last last2 gA : Nat} {S S2 : St} {cs : Array Value} (h : P2 B X F G g x S last S2 last2) (hg : X.grownBy Y (some gA)) (hw : Whole X gA 45 cs) (hF : ¬ F gA) (hG : ¬ G gA) : P2 B Y F G g x S last S2 last2 := by
  have hk : Fk (fun i => i = gA) X Y := Fk.grown hg hw rfl (by decide)
  exact ⟨FB.fk h.f hk (fun i h1 h2 => hF (h2 ▸ h1)), h.r.fk hk (fun i h1 h2 => hG (h2 ▸ h1)), h.d⟩
/-- the world in the loop that clears -/
structure ZW (w : World) (A : Option Addr) (N : Nat) (Q : Nat → OpV) (F G : Nat → Prop) (g x : Nat) (S : St) (last : Nat) (A3 : Option Addr) (e : Nat) (X : World) : Prop where
  bel : Below w.heap.size w X
  ops : IsOps w.heap.size X A N Q
  p2 : P2 w.heap.size X F G g x S last S last
  row : 0 < e → ∃ gA cs, A3 = some ⟨gA, 0, none⟩ ∧ Whole X gA 45 cs ∧ e * 34 ≤ cs.size ∧ ¬ F gA ∧ ¬ G gA ∧ w.heap.size ≤ gA
theorem ZW.set {w : World} {A : Option Addr} {N : Nat} {Q : Nat → OpV} {F G : Nat → Prop} {g x : Nat} {S : St} {last gA e : Nat} {X : World} {cs : Array Value} (h : ZW w A N Q F G g x S last (some ⟨gA, 0, none⟩) e X) (hw : Whole X gA 45 cs) (he : e * 34 ≤ cs.size) (hF : ¬ F gA) (hG : ¬ G gA) (hB : w.heap.size ≤ gA) (i : Nat) (u : Value) :
    ZW w A N Q F G g x S last (some ⟨gA, 0, none⟩) e (X.setCell ⟨gA, i, none⟩ u) := by
  have hg := grown_cell1 X gA i u
  have hb : Below w.heap.size w (X.setCell ⟨gA, i, none⟩ u) := h.bel.grown hg h.bel.size (fun k hk => by injection hk with hk; rw [← hk]; exact hB)
  have hb2 : Below w.heap.size X (X.setCell ⟨gA, i, none⟩ u) := (Below.refl _ _).grown hg h.bel.size (fun k hk => by injection hk with hk; rw [← hk]; exact hB)
  exact ⟨hb, h.ops.below hb2, h.p2.other hg hw hF hG, fun _ => ⟨gA, _, rfl, hw.put i u, by rw [Array.size_setIfInBounds]; exact he, hF, hG, hB⟩⟩
theorem ZW.drewN {w : World} {A : Option Addr} {N : Nat} {Q : Nat → OpV} {F G : Nat → Prop} {g x : Nat} {S : St} {last e : Nat} {A3 : Option Addr} {X Y : World} (h : ZW w A N Q F G g x S last A3 e X) (hb : Below X.heap.size X Y) : ZW w A N Q F G g x S last A3 e Y :=
  ⟨below_trans h.bel hb, h.ops.below (hb.mono h.bel.size), h.p2.below hb, fun he => by
    obtain ⟨gA, cs, e1, hw, r⟩ := h.row he
    exact ⟨gA, cs, e1, hw.below hb hw.lt, r⟩⟩
theorem its_nil (X : World) : Its X (.slice none 0 0) [] := ⟨none, rfl, .inl rfl⟩
theorem owi_nil (X : World) (B : Nat) : OwI X B none 0 [] := ⟨rfl, .inl ⟨rfl, rfl⟩⟩
set_option maxRecDepth 100000 in
set_option maxHeartbeats 4000000 in
theorem walk0 (A : Option Addr) (N c : Nat) (Q : Nat → OpV) (id : Nat) (hid : okU id) (w : World) (hQ : IsOps w.heap.size w A N Q) (hN : N ≤ 9223372036854775807) : Calls Try.prog 3 #[.slice A N c, .int .u64 (id : Nat)] w fun e w' => e = .returned (.bool true) ∧ Below w.heap.size w w' := by
  have HQ := Lib.hid hQ
  have HID := Lib.hid hid
  clear hQ hid
  go_enter Try.func3, Try.ntmps3
  go_wp2_with fail
  refine (new_any w).mono ?_
  rintro o X1 ⟨g, rfl, hb1, hf1⟩
  have HF1 := Lib.hid (FB.new hf1 (Nat.le_refl _))
  have HB1 := Lib.hid hb1
  clear hf1 hb1
  go_upto_region 3 with fail
  have HL := Lib.hid (show LvW w A N Q g X1.heap.size 1 0 [] 0 (X1.alloc (.cells #[.slice none 0 0, .int .u64 0] 29)) from by
    have hb : Below X1.heap.size X1 (X1.alloc (.cells #[.slice none 0 0, .int .u64 0] 29)) := below_alloc (Below.refl _ _) _
    exact ⟨below_trans HB1.out hb, HQ.out.below (below_trans HB1.out hb), ⟨_, _, HF1.out.below hb, rf_new HB1.out.size, fun i h1 h2 => by have := h1.2; omega⟩, ⟨by decide, Nat.le_refl _, by decide, fun p hp => by cases hp⟩⟩)
  obtain ⟨x, hx⟩ : ∃ x, X1.heap.size = x := ⟨_, rfl⟩
  rw [hx] at HL ⊢
  clear HF1 HB1 HQ hx
  generalize X1.alloc (.cells #[.slice none 0 0, .int .u64 0] 29) = X2 at HL ⊢
  clear X1
  go_wp2_with fail
  go_loopw [7, 8, 9, 10, 11, 12, 13, 14, 15, 16, 17, 18, 19, 20, 21] (fun nx i _ _ _ _ _ _ _ _ _ _ _ _ _ X => ∃ (k v : Nat) (S : St) (last : Nat), k ≤ N ∧ k ≤ 120 ∧ i = .int .i64 k ∧ nx = .int .u64 v ∧ LvW w A N Q g x v k S last X) (fun _ i _ _ _ _ _ _ _ _ _ _ _ _ _ _ => N - (intOf i).toNat)
  case atStart => exact ⟨0, 1, [], 0, Nat.zero_le _, Nat.zero_le _, rfl, rfl, HL.out⟩
  case round =>
    obtain ⟨k, v, S, last, hk, hk2, rfl, rfl, hW⟩ := hrel
    have HW := Lib.hid hW
    clear hW HL
    by_cases hlt : k < N ∧ k < 120
    · obtain ⟨hlt, hlt2⟩ := hlt
      obtain ⟨F, G, hP⟩ := HW.out.p2
      have HB := Lib.hid HW.out.bel
      have HQ := Lib.hid HW.out.ops
      have HBD := Lib.hid HW.out.bd
      have HFL := Lib.hid (show (∀ i, F i → i < wr.heap.size) ∧ (∀ i, G i → i < wr.heap.size) from ⟨fun i hi => (hP.f.2 i hi).2, fun i hi => (rf_lt hP.r i hi).2⟩)
      have HP := Lib.hid hP
      obtain ⟨b, off, rfl, hbl, _, _, _, hrg⟩ := HQ.out.get hlt
      have HRG := Lib.hid hrg
      have HOK := Lib.hid (HQ.out.ok k hlt)
      obtain ⟨kd, hkd⟩ : ∃ kd, (Q k).c = kd := ⟨_, rfl⟩
      obtain ⟨oo, hoo⟩ : ∃ oo, (Q k).o = oo := ⟨_, rfl⟩
      obtain ⟨nn, hnn⟩ : ∃ nn, (Q k).n = nn := ⟨_, rfl⟩
      have HOO := Lib.hid (show okU oo from hoo ▸ HOK.out.o)
      have hV : opL (Q k) = [.int .i64 kd, .int .u64 (oo : Nat), .int .i64 nn] := by unfold opL; rw [hkd, hoo, hnn]
      rw [hV] at HRG
      clear hP hrg hbl hkd hoo hnn hV HW HOK
      have hlt' : (k : Int) < (N : Int) := by omega
      go_upto_region 8 with (first | (refine wpList_load_mid rfl 31 (.tmp 37) rfl b (off + k * 3) rfl _ _ HRG.out rfl rfl (by kernel_rfl) ?_) | (refine wpList_store_row rfl 31 (.tmp 9) (.tmp 38) rfl wr.heap.size #[.int .i64 kd, .int .u64 (oo : Nat), .int .i64 nn] rfl rfl 31 _ (Whole.new _ _ _) (by kernel_rfl) rfl rfl ?_))
      try simp only [Act.put]
      have hbw : Below wr.heap.size wr (wr.alloc (.cells #[.int .i64 kd, .int .u64 (oo : Nat), .int .i64 nn] 31)) := below_alloc (Below.refl _ _) _
      refine cut_world (fun X => P2 w.heap.size X F G g x S last S last ∧ Whole X wr.heap.size 31 #[.int .i64 kd, .int .u64 (oo : Nat), .int .i64 nn] ∧ Below w.heap.size w X ∧ IsOps w.heap.size X (some ⟨b, off, none⟩) N Q) ⟨HP.out.below hbw, Whole.new _ _ _, below_trans HB.out hbw, HQ.out.below (hbw.mono HB.out.size)⟩ ?_
      rintro X ⟨x1, x2, x3, x4⟩
      clear HP HB HQ hbw HRG
      have HP := Lib.hid x1
      have HBX := Lib.hid x2
      have HB := Lib.hid x3
      have HQ := Lib.hid x4
      obtain ⟨NB, hNB⟩ : ∃ NB, wr.heap.size = NB := ⟨_, rfl⟩
      rw [hNB] at HBX HFL ⊢
      have HNB := Lib.hid (show ¬ F NB ∧ ¬ G NB from ⟨fun c => Nat.lt_irrefl _ (HFL.out.1 NB c), fun c => Nat.lt_irrefl _ (HFL.out.2 NB c)⟩)
      clear x1 x2 x3 x4 hNB
      have c0 := HBX.out.cell 0
      go_upto_region 9 with fail
      clear c0
      by_cases hk0 : kd = 0
      · subst hk0
        by_cases hfull : S.length < 8
        · have hla := HBD.out.lk
          go_wp2_with fail
          refine (watch_ok HP.out.f.1 hfull (by omega)).mono ?_
          rintro e X2 ⟨rfl, hf2, hk2⟩
          have h2 := HP.out.left (HP.out.f.grow HB.out.size hf2) hk2 (fun i hi => hi.1)
          have hB2 := HB.out.trans (HP.out.bl HB.out.size hk2)
          have HP2 := Lib.hid h2
          have HB2 := Lib.hid hB2
          have HQ2 := Lib.hid (HQ.out.below (HP.out.bl HB.out.size hk2))
          clear h2 hB2 hf2 hk2 HP HB HQ HBX
          go_wp2_with fail
          refine (rwatch_ok HP2.out.r hfull (by omega)).mono ?_
          rintro e X3 ⟨rfl, hr3⟩
          have hb3 := HP2.out.br HB2.out.size hr3
          obtain ⟨G3, hP3⟩ := HP2.out.right hr3
          have HT := Lib.hid (show LvW w (some ⟨b, off, none⟩) N Q g x v (k + 1) (S ++ [(last + 1, ⟨[], 0⟩)]) (last + 1) X3 from ⟨HB2.out.trans hb3, HQ2.out.below hb3, ⟨_, _, hP3⟩, HBD.out.watch hfull⟩)
          clear hr3 hb3 hP3 HP2 HB2 HQ2 HBD HFL HNB
          obtain ⟨S9, hS9⟩ : ∃ S9, S ++ [(last + 1, ⟨[], 0⟩)] = S9 := ⟨_, rfl⟩
          rw [hS9] at HT
          clear hS9
          obtain ⟨F9, G9, hP⟩ := HT.out.p2
          have HWC := Lib.hid (who_any hP.f.1 HT.out.bd.len)
          have HLN := HT.out.bd.len
          obtain ⟨n, hn⟩ : ∃ n, List.length S9 = n := ⟨_, rfl⟩
          have HN9 := Lib.hid hn
          rw [hn] at HLN
          clear hP hn
          clear F9 G9
          go_wp2_with fail
          refine HWC.out.mono ?_
          rintro e Xw ⟨Aw, cw, rfl, hown, hbw⟩
          have HT2 := Lib.hid (HT.out.below hbw)
          obtain ⟨F9, G9, hP⟩ := HT2.out.p2
          have C1 := Lib.hid (waits_any hP.f.1 id HID.out)
          have C2 := Lib.hid (rwaits_any hP.r (by have := HT2.out.bd.len; omega) (fun p hp => hP.f.1.ok p hp) id)
          obtain ⟨R, AR, cR, hRW, hRS, _⟩ := hP.r
          have hRl : R.length = n := by rw [← HN9.out, ← hRS, stR_length]
          have cx := hRW.obj.cell 0
          rw [hRl] at cx
          have cx : Xw.cell? ⟨x, 0, none⟩ = some (.slice AR n cR) := cx
          rw [HN9.out] at hown ⊢
          have HOW := Lib.hid hown
          have HRW := Lib.hid hRW
          have HRS := Lib.hid (show stR R = S9 ∧ R.length = n from ⟨hRS, hRl⟩)
          generalize waitsS S9 id = wv at C1 C2
          clear hown hbw hRW hRS hRl HT HWC hP
          clear F9
          go_wp2_with fail
          refine C1.out.mono ?_
          rintro e w1 ⟨rfl, rfl⟩
          go_wp2_with fail
          refine C2.out.mono ?_
          rintro e w1 ⟨rfl, rfl⟩
          go_wp2_with fail
          clear C1 C2
          go_loopw [21] (fun kk X => ∃ j : Nat, j ≤ n ∧ kk = .int .i64 j ∧ Below Xw.heap.size Xw X) (fun kk _ => n - (intOf kk).toNat)
          case atStart => exact ⟨0, Nat.zero_le _, rfl, Below.refl _ _⟩
          case round =>
            obtain ⟨j, hj, rfl, hbj⟩ := hrel
            have HBJ := Lib.hid hbj
            clear hbj cx
            by_cases hjn : j < n
            · obtain ⟨r, hr⟩ : ∃ r, R[j]? = some r := ⟨_, List.getElem?_eq_getElem (by rw [HRS.out.2]; exact hjn)⟩
              obtain ⟨gR, rfl, hgR, hrr, _⟩ := HRW.out.cell hr
              have hidj : (ids S9)[j]? = some r.id := by rw [← HRS.out.1, ids_stR, List.getElem?_map, hr]; rfl
              obtain ⟨gw, rfl, _, hgw, hcw⟩ := own_cells HOW.out (by omega)
              have c1 := (HBJ.out.cell (p := ⟨gw, j, none⟩) hgw).trans (hcw j _ (us_get hidj)).1
              have c2 := (HBJ.out.cell (p := ⟨gR, j * 3, none⟩) hgR).trans (hrr 0 _ rfl)
              have c3 := (HBJ.out.cell (p := ⟨x, 0, none⟩) HRW.out.obj.lt).trans (HRW.out.obj.cell 0)
              rw [HRS.out.2] at c3
              have c3 : wr.cell? ⟨x, 0, none⟩ = some (.slice (some ⟨gR, 0, none⟩) n cR) := c3
              have hjn' : (j : Int) < (n : Int) := by omega
              generalize r.id = rid at c1 c2
              clear hr hgR hrr hidj hgw hcw
              go_wp2_with fail
              go_quiet (fail)
              go_wp2_with fail
              go_round
              case rel => exact ⟨j + 1, by omega, by go_num, Mem.below_drewN HBJ.out _⟩
              case measure => simp [intOf]; omega
            · have HT3 := Lib.hid (HT2.out.below HBJ.out)
              go_wp2_with fail
              go_roundw
              case rel => exact ⟨k + 1, v, S9, _, by omega, by omega, by go_num, by go_num, HT3.out⟩
              case measure => simp [intOf]; omega
        · have h8 : S.length = 8 := by have := HBD.out.len; omega
          have HC1 := Lib.hid (watch_full HP.out.f.1 h8)
          have HC2 := Lib.hid (rwatch_full HP.out.r (by omega) (by omega))
          have HT := Lib.hid (show LvW w (some ⟨b, off, none⟩) N Q g x v (k + 1) S last X from ⟨HB.out, HQ.out, ⟨_, _, HP.out⟩, HBD.out.next⟩)
          clear HP HB HQ HBX HBD HFL HNB
          go_wp2_with fail
          refine HC1.out.mono ?_
          rintro e X2 ⟨rfl, rfl⟩
          go_wp2_with fail
          refine HC2.out.mono ?_
          rintro e X2 ⟨rfl, rfl⟩
          clear HC1 HC2
          obtain ⟨S9, hS9⟩ : ∃ S9, S = S9 := ⟨_, rfl⟩
          rw [hS9] at HT
          clear hS9
          obtain ⟨F9, G9, hP⟩ := HT.out.p2
          have HWC := Lib.hid (who_any hP.f.1 HT.out.bd.len)
          have HLN := HT.out.bd.len
          obtain ⟨n, hn⟩ : ∃ n, List.length S9 = n := ⟨_, rfl⟩
          have HN9 := Lib.hid hn
          rw [hn] at HLN
          clear hP hn
          clear F9 G9
          go_wp2_with fail
          refine HWC.out.mono ?_
          rintro e Xw ⟨Aw, cw, rfl, hown, hbw⟩
          have HT2 := Lib.hid (HT.out.below hbw)
          obtain ⟨F9, G9, hP⟩ := HT2.out.p2
          have C1 := Lib.hid (waits_any hP.f.1 id HID.out)
          have C2 := Lib.hid (rwaits_any hP.r (by have := HT2.out.bd.len; omega) (fun p hp => hP.f.1.ok p hp) id)
          obtain ⟨R, AR, cR, hRW, hRS, _⟩ := hP.r
          have hRl : R.length = n := by rw [← HN9.out, ← hRS, stR_length]
          have cx := hRW.obj.cell 0
          rw [hRl] at cx
          have cx : Xw.cell? ⟨x, 0, none⟩ = some (.slice AR n cR) := cx
          rw [HN9.out] at hown ⊢
          have HOW := Lib.hid hown
          have HRW := Lib.hid hRW
          have HRS := Lib.hid (show stR R = S9 ∧ R.length = n from ⟨hRS, hRl⟩)
          generalize waitsS S9 id = wv at C1 C2
          clear hown hbw hRW hRS hRl HT HWC hP
          clear F9
          go_wp2_with fail
          refine C1.out.mono ?_
          rintro e w1 ⟨rfl, rfl⟩
          go_wp2_with fail
          refine C2.out.mono ?_
          rintro e w1 ⟨rfl, rfl⟩
          go_wp2_with fail
          clear C1 C2
          go_loopw [21] (fun kk X => ∃ j : Nat, j ≤ n ∧ kk = .int .i64 j ∧ Below Xw.heap.size Xw X) (fun kk _ => n - (intOf kk).toNat)
          case atStart => exact ⟨0, Nat.zero_le _, rfl, Below.refl _ _⟩
          case round =>
            obtain ⟨j, hj, rfl, hbj⟩ := hrel
            have HBJ := Lib.hid hbj
            clear hbj cx
            by_cases hjn : j < n
            · obtain ⟨r, hr⟩ : ∃ r, R[j]? = some r := ⟨_, List.getElem?_eq_getElem (by rw [HRS.out.2]; exact hjn)⟩
              obtain ⟨gR, rfl, hgR, hrr, _⟩ := HRW.out.cell hr
              have hidj : (ids S9)[j]? = some r.id := by rw [← HRS.out.1, ids_stR, List.getElem?_map, hr]; rfl
              obtain ⟨gw, rfl, _, hgw, hcw⟩ := own_cells HOW.out (by omega)
              have c1 := (HBJ.out.cell (p := ⟨gw, j, none⟩) hgw).trans (hcw j _ (us_get hidj)).1
              have c2 := (HBJ.out.cell (p := ⟨gR, j * 3, none⟩) hgR).trans (hrr 0 _ rfl)
              have c3 := (HBJ.out.cell (p := ⟨x, 0, none⟩) HRW.out.obj.lt).trans (HRW.out.obj.cell 0)
              rw [HRS.out.2] at c3
              have c3 : wr.cell? ⟨x, 0, none⟩ = some (.slice (some ⟨gR, 0, none⟩) n cR) := c3
              have hjn' : (j : Int) < (n : Int) := by omega
              generalize r.id = rid at c1 c2
              clear hr hgR hrr hidj hgw hcw
              go_wp2_with fail
              go_quiet (fail)
              go_wp2_with fail
              go_round
              case rel => exact ⟨j + 1, by omega, by go_num, Mem.below_drewN HBJ.out _⟩
              case measure => simp [intOf]; omega
            · have HT3 := Lib.hid (HT2.out.below HBJ.out)
              go_wp2_with fail
              go_roundw
              case rel => exact ⟨k + 1, v, S9, _, by omega, by omega, by go_num, by go_num, HT3.out⟩
              case measure => simp [intOf]; omega
      · have hk0' : (kd == 0) = false := beq_eq_false_iff_ne.2 hk0
        by_cases hk1 : kd = 1
        · subst hk1
          have HND := Lib.hid HP.out.f.1.nd
          by_cases hm : oo ∈ ids S
          · have HDM := Lib.hid (show decide (oo ∈ ids S) = true from decide_eq_true hm)
            have HM := Lib.hid hm
            clear hm
            have hPd := HP.out.below (Below.drew (Below.refl _ _))
            have HPD := Lib.hid hPd
            clear hPd
            go_upto_region 15 with fail
            refine region_drew (fun V => Whole V NB 31 #[.int .i64 1, .int .u64 (oo : Nat), .int .i64 nn]) (by kernel_rfl) (HBX.out.below (Below.drew (Below.refl _ _)) HBX.out.lt) (fun hS => ?_)
            refine take 0 _ rfl (by kernel_rfl) (by kernel_rfl) (by kernel_rfl) (fun _ _ _ h => h) (by rfl) hS (by intro w _; go_simp; with_reducible rfl) ?_
            try simp only [Act.put, List.setIfInBounds_toArray, List.set_cons_zero, List.set_cons_succ]
            refine take 1 _ rfl (by kernel_rfl) (by kernel_rfl) (by kernel_rfl) (fun _ _ _ h => h) (by rfl) hS (by intro w _; go_simp; with_reducible rfl) ?_
            try simp only [Act.put, List.setIfInBounds_toArray, List.set_cons_zero, List.set_cons_succ]
            refine take 2 _ rfl (by kernel_rfl) (by kernel_rfl) (by kernel_rfl) (fun _ _ _ h => h) (by rfl) hS (by intro w hw; have hcl := hw.cell 1; go_simp; with_reducible rfl) ?_
            try simp only [Act.put, List.setIfInBounds_toArray, List.set_cons_zero, List.set_cons_succ]
            refine take 4 _ rfl (by kernel_rfl) (by kernel_rfl) (by kernel_rfl) (fun _ _ _ h => h) (by rfl) hS (by intro w _; go_simp; with_reducible rfl) ?_
            try simp only [Act.put, List.setIfInBounds_toArray, List.set_cons_zero, List.set_cons_succ]
            refine take 5 _ rfl (by kernel_rfl) (by kernel_rfl) (by kernel_rfl) (fun _ _ _ h => h) (by rfl) hS (by intro w _; go_simp; with_reducible rfl) ?_
            try simp only [Act.put, List.setIfInBounds_toArray, List.set_cons_zero, List.set_cons_succ]
            refine take 6 _ rfl (by kernel_rfl) (by kernel_rfl) (by kernel_rfl) (fun _ _ _ h => h) (by rfl) hS (by intro w hw; have hcl := hw.cell 1; go_simp; with_reducible rfl) ?_
            try simp only [Act.put, List.setIfInBounds_toArray, List.set_cons_zero, List.set_cons_succ]
            refine alone 3 rfl (by kernel_rfl) (by rfl) ?_
            intro K hK
            go_simp
            refine (leave_in HPD.out.f.1 oo HOO.out HM.out).mono ?_
            rintro e X2 ⟨rfl, hf2, hk2⟩
            have HP2 := Lib.hid (show P2 w.heap.size X2 F G g x (leaveS S oo) last S last from HPD.out.left ⟨hf2, fun i hi => ⟨(HPD.out.f.2 i hi).1, Nat.lt_of_lt_of_le (HPD.out.f.2 i hi).2 hk2.size⟩⟩ hk2 (fun i hi => .inl hi))
            have HB2 := Lib.hid (show Below w.heap.size w X2 from HB.out.drew.trans (HPD.out.bl HB.out.size hk2))
            have HQ2 := Lib.hid (HQ.out.below (show Below w.heap.size X X2 from (Below.drew (Below.refl _ _)).trans (HPD.out.bl HB.out.size hk2)))
            go_simp
            have hS2 : Whole X2 NB 31 #[.int .i64 1, .int .u64 (oo : Nat), .int .i64 nn] := hk2.whole (HBX.out.below (Below.drew (Below.refl _ _)) HBX.out.lt) HNB.out.1
            refine hK.out _ _ hS2 ?_
            clear hK K HP HB HQ HBX
            try simp only [Act.put, List.setIfInBounds_toArray, List.set_cons_zero, List.set_cons_succ]
            have HRL := Lib.hid (rleave_any HP2.out.r (by have := HBD.out.len; omega) HND.out oo)
            rw [HDM.out] at HRL
            refine alone 7 rfl (by kernel_rfl) (by rfl) ?_
            intro K hK
            go_simp
            refine HRL.out.mono ?_
            rintro e X3 ⟨rfl, hr3⟩
            have hb3 := HP2.out.br HB2.out.size hr3
            have hS3 : Whole X3 NB 31 #[.int .i64 1, .int .u64 (oo : Nat), .int .i64 nn] := by
              obtain ⟨G', _, _, hk3⟩ := hr3
              exact hk3.whole hS2 HNB.out.2
            obtain ⟨G3, hP3⟩ := HP2.out.right hr3
            have HT := Lib.hid (show LvW w (some ⟨b, off, none⟩) N Q g x v (k + 1) (leaveS S oo) last X3 from ⟨HB2.out.trans hb3, HQ2.out.below hb3, ⟨_, _, hP3⟩, HBD.out.leave oo⟩)
            go_simp
            refine hK.out _ _ hS3 ?_
            clear hK K hr3 hb3 hP3 HP2 HB2 HQ2 HBD HFL HNB HRL
            try simp only [Act.put, List.setIfInBounds_toArray, List.set_cons_zero, List.set_cons_succ]
            have hS := hS3
            refine take 8 _ rfl (by kernel_rfl) (by kernel_rfl) (by kernel_rfl) (fun _ _ _ h => h) (by rfl) hS (by intro w _; go_simp; with_reducible rfl) ?_
            try simp only [Act.put, List.setIfInBounds_toArray, List.set_cons_zero, List.set_cons_succ]
            refine region_end (by kernel_rfl) ?_
            clear hS hS2 hS3
            obtain ⟨S9, hS9⟩ : ∃ S9, leaveS S oo = S9 := ⟨_, rfl⟩
            rw [hS9] at HT
            clear hS9
            obtain ⟨F9, G9, hP⟩ := HT.out.p2
            have HWC := Lib.hid (who_any hP.f.1 HT.out.bd.len)
            have HLN := HT.out.bd.len
            obtain ⟨n, hn⟩ : ∃ n, List.length S9 = n := ⟨_, rfl⟩
            have HN9 := Lib.hid hn
            rw [hn] at HLN
            clear hP hn
            clear F9 G9
            go_wp2_with fail
            refine HWC.out.mono ?_
            rintro e Xw ⟨Aw, cw, rfl, hown, hbw⟩
            have HT2 := Lib.hid (HT.out.below hbw)
            obtain ⟨F9, G9, hP⟩ := HT2.out.p2
            have C1 := Lib.hid (waits_any hP.f.1 id HID.out)
            have C2 := Lib.hid (rwaits_any hP.r (by have := HT2.out.bd.len; omega) (fun p hp => hP.f.1.ok p hp) id)
            obtain ⟨R, AR, cR, hRW, hRS, _⟩ := hP.r
            have hRl : R.length = n := by rw [← HN9.out, ← hRS, stR_length]
            have cx := hRW.obj.cell 0
            rw [hRl] at cx
            have cx : Xw.cell? ⟨x, 0, none⟩ = some (.slice AR n cR) := cx
            rw [HN9.out] at hown ⊢
            have HOW := Lib.hid hown
            have HRW := Lib.hid hRW
            have HRS := Lib.hid (show stR R = S9 ∧ R.length = n from ⟨hRS, hRl⟩)
            generalize waitsS S9 id = wv at C1 C2
            clear hown hbw hRW hRS hRl HT HWC hP
            clear F9
            go_wp2_with fail
            refine C1.out.mono ?_
            rintro e w1 ⟨rfl, rfl⟩
            go_wp2_with fail
            refine C2.out.mono ?_
            rintro e w1 ⟨rfl, rfl⟩
            go_wp2_with fail
            clear C1 C2
            go_loopw [21] (fun kk X => ∃ j : Nat, j ≤ n ∧ kk = .int .i64 j ∧ Below Xw.heap.size Xw X) (fun kk _ => n - (intOf kk).toNat)
            case atStart => exact ⟨0, Nat.zero_le _, rfl, Below.refl _ _⟩
            case round =>
              obtain ⟨j, hj, rfl, hbj⟩ := hrel
              have HBJ := Lib.hid hbj
              clear hbj cx
              by_cases hjn : j < n
              · obtain ⟨r, hr⟩ : ∃ r, R[j]? = some r := ⟨_, List.getElem?_eq_getElem (by rw [HRS.out.2]; exact hjn)⟩
                obtain ⟨gR, rfl, hgR, hrr, _⟩ := HRW.out.cell hr
                have hidj : (ids S9)[j]? = some r.id := by rw [← HRS.out.1, ids_stR, List.getElem?_map, hr]; rfl
                obtain ⟨gw, rfl, _, hgw, hcw⟩ := own_cells HOW.out (by omega)
                have c1 := (HBJ.out.cell (p := ⟨gw, j, none⟩) hgw).trans (hcw j _ (us_get hidj)).1
                have c2 := (HBJ.out.cell (p := ⟨gR, j * 3, none⟩) hgR).trans (hrr 0 _ rfl)
                have c3 := (HBJ.out.cell (p := ⟨x, 0, none⟩) HRW.out.obj.lt).trans (HRW.out.obj.cell 0)
                rw [HRS.out.2] at c3
                have c3 : wr.cell? ⟨x, 0, none⟩ = some (.slice (some ⟨gR, 0, none⟩) n cR) := c3
                have hjn' : (j : Int) < (n : Int) := by omega
                generalize r.id = rid at c1 c2
                clear hr hgR hrr hidj hgw hcw
                go_wp2_with fail
                go_quiet (fail)
                go_wp2_with fail
                go_round
                case rel => exact ⟨j + 1, by omega, by go_num, Mem.below_drewN HBJ.out _⟩
                case measure => simp [intOf]; omega
              · have HT3 := Lib.hid (HT2.out.below HBJ.out)
                go_wp2_with fail
                go_roundw
                case rel => exact ⟨k + 1, v, S9, _, by omega, by omega, by go_num, by go_num, HT3.out⟩
                case measure => simp [intOf]; omega
          · have HDM := Lib.hid (show decide (oo ∈ ids S) = false from decide_eq_false hm)
            have HM := Lib.hid hm
            have hls : leaveS S oo = S := leave_none hm
            clear hm
            have HPD := Lib.hid (HP.out.below (Below.drew (Below.refl _ _)))
            go_upto_region 15 with fail
            refine region_drew (fun V => Whole V NB 31 #[.int .i64 1, .int .u64 (oo : Nat), .int .i64 nn]) (by kernel_rfl) (HBX.out.below (Below.drew (Below.refl _ _)) HBX.out.lt) (fun hS => ?_)
            refine take 0 _ rfl (by kernel_rfl) (by kernel_rfl) (by kernel_rfl) (fun _ _ _ h => h) (by rfl) hS (by intro w _; go_simp; with_reducible rfl) ?_
            try simp only [Act.put, List.setIfInBounds_toArray, List.set_cons_zero, List.set_cons_succ]
            refine take 1 _ rfl (by kernel_rfl) (by kernel_rfl) (by kernel_rfl) (fun _ _ _ h => h) (by rfl) hS (by intro w _; go_simp; with_reducible rfl) ?_
            try simp only [Act.put, List.setIfInBounds_toArray, List.set_cons_zero, List.set_cons_succ]
            refine take 2 _ rfl (by kernel_rfl) (by kernel_rfl) (by kernel_rfl) (fun _ _ _ h => h) (by rfl) hS (by intro w hw; have hcl := hw.cell 1; go_simp; with_reducible rfl) ?_
            try simp only [Act.put, List.setIfInBounds_toArray, List.set_cons_zero, List.set_cons_succ]
            refine take 4 _ rfl (by kernel_rfl) (by kernel_rfl) (by kernel_rfl) (fun _ _ _ h => h) (by rfl) hS (by intro w _; go_simp; with_reducible rfl) ?_
            try simp only [Act.put, List.setIfInBounds_toArray, List.set_cons_zero, List.set_cons_succ]
            refine take 5 _ rfl (by kernel_rfl) (by kernel_rfl) (by kernel_rfl) (fun _ _ _ h => h) (by rfl) hS (by intro w _; go_simp; with_reducible rfl) ?_
            try simp only [Act.put, List.setIfInBounds_toArray, List.set_cons_zero, List.set_cons_succ]
            refine take 6 _ rfl (by kernel_rfl) (by kernel_rfl) (by kernel_rfl) (fun _ _ _ h => h) (by rfl) hS (by intro w hw; have hcl := hw.cell 1; go_simp; with_reducible rfl) ?_
            try simp only [Act.put, List.setIfInBounds_toArray, List.set_cons_zero, List.set_cons_succ]
            refine alone 3 rfl (by kernel_rfl) (by rfl) ?_
            intro K hK
            go_simp
            refine (leave_out HPD.out.f.1 oo HOO.out HM.out).mono ?_
            rintro e X2 ⟨rfl, hx2⟩
            have HP2 := Lib.hid (show P2 w.heap.size X2 F G g x (leaveS S oo) last S last from (by rw [← hx2, hls]; exact HPD.out))
            have HB2 := Lib.hid (show Below w.heap.size w X2 from (hx2 ▸ HB.out.drew))
            have HQ2 := Lib.hid (HQ.out.below (show Below w.heap.size X X2 from (hx2 ▸ Below.drew (Below.refl _ _))))
            go_simp
            have hS2 : Whole X2 NB 31 #[.int .i64 1, .int .u64 (oo : Nat), .int .i64 nn] := (hx2 ▸ HBX.out.below (Below.drew (Below.refl _ _)) HBX.out.lt)
            refine hK.out _ _ hS2 ?_
            clear hK K HP HB HQ HBX
            try simp only [Act.put, List.setIfInBounds_toArray, List.set_cons_zero, List.set_cons_succ]
            have HRL := Lib.hid (rleave_any HP2.out.r (by have := HBD.out.len; omega) HND.out oo)
            rw [HDM.out] at HRL
            refine alone 7 rfl (by kernel_rfl) (by rfl) ?_
            intro K hK
            go_simp
            refine HRL.out.mono ?_
            rintro e X3 ⟨rfl, hr3⟩
            have hb3 := HP2.out.br HB2.out.size hr3
            have hS3 : Whole X3 NB 31 #[.int .i64 1, .int .u64 (oo : Nat), .int .i64 nn] := by
              obtain ⟨G', _, _, hk3⟩ := hr3
              exact hk3.whole hS2 HNB.out.2
            obtain ⟨G3, hP3⟩ := HP2.out.right hr3
            have HT := Lib.hid (show LvW w (some ⟨b, off, none⟩) N Q g x v (k + 1) (leaveS S oo) last X3 from ⟨HB2.out.trans hb3, HQ2.out.below hb3, ⟨_, _, hP3⟩, HBD.out.leave oo⟩)
            go_simp
            refine hK.out _ _ hS3 ?_
            clear hK K hr3 hb3 hP3 HP2 HB2 HQ2 HBD HFL HNB HRL
            try simp only [Act.put, List.setIfInBounds_toArray, List.set_cons_zero, List.set_cons_succ]
            have hS := hS3
            refine take 8 _ rfl (by kernel_rfl) (by kernel_rfl) (by kernel_rfl) (fun _ _ _ h => h) (by rfl) hS (by intro w _; go_simp; with_reducible rfl) ?_
            try simp only [Act.put, List.setIfInBounds_toArray, List.set_cons_zero, List.set_cons_succ]
            refine region_end (by kernel_rfl) ?_
            clear hS hS2 hS3
            obtain ⟨S9, hS9⟩ : ∃ S9, leaveS S oo = S9 := ⟨_, rfl⟩
            rw [hS9] at HT
            clear hS9
            obtain ⟨F9, G9, hP⟩ := HT.out.p2
            have HWC := Lib.hid (who_any hP.f.1 HT.out.bd.len)
            have HLN := HT.out.bd.len
            obtain ⟨n, hn⟩ : ∃ n, List.length S9 = n := ⟨_, rfl⟩
            have HN9 := Lib.hid hn
            rw [hn] at HLN
            clear hP hn
            clear F9 G9
            go_wp2_with fail
            refine HWC.out.mono ?_
            rintro e Xw ⟨Aw, cw, rfl, hown, hbw⟩
            have HT2 := Lib.hid (HT.out.below hbw)
            obtain ⟨F9, G9, hP⟩ := HT2.out.p2
            have C1 := Lib.hid (waits_any hP.f.1 id HID.out)
            have C2 := Lib.hid (rwaits_any hP.r (by have := HT2.out.bd.len; omega) (fun p hp => hP.f.1.ok p hp) id)
            obtain ⟨R, AR, cR, hRW, hRS, _⟩ := hP.r
            have hRl : R.length = n := by rw [← HN9.out, ← hRS, stR_length]
            have cx := hRW.obj.cell 0
            rw [hRl] at cx
            have cx : Xw.cell? ⟨x, 0, none⟩ = some (.slice AR n cR) := cx
            rw [HN9.out] at hown ⊢
            have HOW := Lib.hid hown
            have HRW := Lib.hid hRW
            have HRS := Lib.hid (show stR R = S9 ∧ R.length = n from ⟨hRS, hRl⟩)
            generalize waitsS S9 id = wv at C1 C2
            clear hown hbw hRW hRS hRl HT HWC hP
            clear F9
            go_wp2_with fail
            refine C1.out.mono ?_
            rintro e w1 ⟨rfl, rfl⟩
            go_wp2_with fail
            refine C2.out.mono ?_
            rintro e w1 ⟨rfl, rfl⟩
            go_wp2_with fail
            clear C1 C2
            go_loopw [21] (fun kk X => ∃ j : Nat, j ≤ n ∧ kk = .int .i64 j ∧ Below Xw.heap.size Xw X) (fun kk _ => n - (intOf kk).toNat)
            case atStart => exact ⟨0, Nat.zero_le _, rfl, Below.refl _ _⟩
            case round =>
              obtain ⟨j, hj, rfl, hbj⟩ := hrel
              have HBJ := Lib.hid hbj
              clear hbj cx
              by_cases hjn : j < n
              · obtain ⟨r, hr⟩ : ∃ r, R[j]? = some r := ⟨_, List.getElem?_eq_getElem (by rw [HRS.out.2]; exact hjn)⟩
                obtain ⟨gR, rfl, hgR, hrr, _⟩ := HRW.out.cell hr
                have hidj : (ids S9)[j]? = some r.id := by rw [← HRS.out.1, ids_stR, List.getElem?_map, hr]; rfl
                obtain ⟨gw, rfl, _, hgw, hcw⟩ := own_cells HOW.out (by omega)
                have c1 := (HBJ.out.cell (p := ⟨gw, j, none⟩) hgw).trans (hcw j _ (us_get hidj)).1
                have c2 := (HBJ.out.cell (p := ⟨gR, j * 3, none⟩) hgR).trans (hrr 0 _ rfl)
                have c3 := (HBJ.out.cell (p := ⟨x, 0, none⟩) HRW.out.obj.lt).trans (HRW.out.obj.cell 0)
                rw [HRS.out.2] at c3
                have c3 : wr.cell? ⟨x, 0, none⟩ = some (.slice (some ⟨gR, 0, none⟩) n cR) := c3
                have hjn' : (j : Int) < (n : Int) := by omega
                generalize r.id = rid at c1 c2
                clear hr hgR hrr hidj hgw hcw
                go_wp2_with fail
                go_quiet (fail)
                go_wp2_with fail
                go_round
                case rel => exact ⟨j + 1, by omega, by go_num, Mem.below_drewN HBJ.out _⟩
                case measure => simp [intOf]; omega
              · have HT3 := Lib.hid (HT2.out.below HBJ.out)
                go_wp2_with fail
                go_roundw
                case rel => exact ⟨k + 1, v, S9, _, by omega, by omega, by go_num, by go_num, HT3.out⟩
                case measure => simp [intOf]; omega
        · have hk1' : (kd == 1) = false := beq_eq_false_iff_ne.2 hk1
          by_cases hk2' : kd = 2
          · subst hk2'
            have c2 := HBX.out.cell 2
            have hvk := HBD.out.vk
            have HEV := Lib.hid (events_any v nn (by omega) X)
            go_upto_region 18 with fail
            go_wp2_with (go_at_call 13; fail)
            refine HEV.out.mono ?_
            rintro o X3 ⟨A3, c3, rfl, ho3, hb3⟩
            have HP3 := Lib.hid (HP.out.below hb3)
            have HB3 := Lib.hid (below_trans HB.out hb3)
            have HSX := Lib.hid (show (∀ i, F i → i < X.heap.size) ∧ (∀ i, G i → i < X.heap.size) ∧ w.heap.size ≤ X.heap.size from ⟨fun i hi => (HP.out.f.2 i hi).2, fun i hi => (rf_lt HP.out.r i hi).2, HB.out.size⟩)
            have HO3 := Lib.hid ho3
            have HQ3 := Lib.hid (HQ.out.below (hb3.mono HB.out.size))
            have hen := evN_le nn
            have HLE := Lib.hid (evs_length v (evN nn))
            have HEO := Lib.hid (evs_ok v (evN nn) hen (by omega))
            have HKS := Lib.hid (show ∀ p ∈ S, OkWt p.2 from fun p hp => HP.out.f.1.ok p hp)
            generalize evs v (evN nn) = l at HO3 HLE HEO
            generalize evN nn = e at HLE hen ⊢
            obtain ⟨NX, hNX⟩ : ∃ NX, X.heap.size = NX := ⟨_, rfl⟩
            rw [hNX] at HSX HO3
            clear HEV ho3 hb3 HP HB HQ c2 HBX hNX HNB HFL
            clear X
            have hw1 : IntKind.u64.wrap (e : Int) = (e : Int) := by rw [IntKind.wrap_u64]; omega
            have hw2 : IntKind.u64.wrap ((v : Int) + (e : Int)) = (v : Int) + (e : Int) := by rw [IntKind.wrap_u64]; omega
            go_wp2_with fail
            have hp := push_ev HP3.out.f HB3.out.size HSX.out.1 HO3.out HEO.out (fun p hp => by
              have := HBD.out.lost p hp
              have := HLE.out
              omega) (by rw [HLE.out]; omega)
            rw [HLE.out] at hp
            refine hp.mono ?_
            rintro o X4 ⟨rfl, hf4, hk4, hb4⟩
            have HP4 := Lib.hid (HP3.out.left hf4 hk4 (fun i hi => .inl hi))
            have HO4 := Lib.hid (OwE.fk HO3.out hk4 HSX.out.1)
            have HB4 := Lib.hid (HB3.out.trans hb4)
            have HQ4 := Lib.hid (HQ3.out.below hb4)
            clear hp hf4 hk4 hb4 HP3 HO3 HB3 HQ3
            go_wp2_with fail
            have hp := revents_any c3 HO4.out.rd (by rw [HLE.out]; omega)
            rw [HLE.out] at hp
            refine hp.mono ?_
            rintro o X5 ⟨A5, c5, rfl, ho5, hb5⟩
            have HP5 := Lib.hid (HP4.out.below hb5)
            have HO5 := Lib.hid (show OwE X5 NX A3 c3 l from own_keep HO4.out hb5)
            have HB5 := Lib.hid (below_trans HB4.out hb5)
            have HQ5 := Lib.hid (HQ4.out.below (hb5.mono HB4.out.size))
            have HG4 := Lib.hid (show ∀ i, G i → i < X4.heap.size from fun i hi => (rf_lt HP4.out.r i hi).2)
            have HR5 := Lib.hid ho5
            clear hp ho5 hb5 HP4 HO4 HB4 HQ4
            go_wp2_with fail
            have hp := rpush_any HP5.out.r (by have := HBD.out.len; omega) A5 c5 l HR5.out.rd (fun bb oo2 e1 hG => by have h1 := (HR5.out.base bb oo2 e1).1; have h2 := HG4.out bb hG; omega) (fun p hp => ⟨HKS.out p hp, by have := HBD.out.lost p hp; have := HLE.out; omega⟩) (by rw [HLE.out]; omega)
            rw [HLE.out] at hp
            refine hp.mono ?_
            rintro o X6 ⟨rfl, hr6⟩
            have hb6 := HP5.out.br HB5.out.size hr6
            obtain ⟨G6, hP6, hsub, hk6⟩ : ∃ G6, P2 w.heap.size X6 F G6 g x (pushS S l) last (pushS S l) last ∧ (∀ i, i < X5.heap.size → G6 i → G i) ∧ Fk G X5 X6 := by
              obtain ⟨G', h1, h2, h3⟩ := hr6
              exact ⟨G', ⟨FB.fk HP5.out.f h3 HP5.out.d, h1, fun i hi hg => HP5.out.d i hi (h2 i (HP5.out.f.2 i hi).2 hg)⟩, h2, h3⟩
            have HZ := Lib.hid (show ZW w (some ⟨b, off, none⟩) N Q F G6 g x (pushS S l) last A3 e X6 from by
              refine ⟨HB5.out.trans hb6, HQ5.out.below hb6, hP6, fun he => ?_⟩
              have ho6 := OwE.fk HO5.out hk6 HSX.out.2.1
              obtain ⟨gA, e1, hgA, _, _⟩ := own_cells ho6 (by rw [HLE.out]; exact he)
              subst e1
              obtain ⟨cs, hcs⟩ := own_whole ho6 rfl
              have h5 := (HO5.out.base gA 0 rfl).2
              refine ⟨gA, cs, rfl, hcs, ?_, fun c => by have := HSX.out.1 gA c; omega, fun c => by have := HSX.out.2.1 gA (hsub gA h5 c); omega, by have := HSX.out.2.2; omega⟩
              rcases ho6.2 with ⟨e0, _⟩ | ⟨g', cap, cur, e1, _, hh, _, _, hsz, ht⟩
              · cases e0
              · injection e1 with e1
                injection e1 with e1
                injection e1 with e1
                subst e1
                have hw : Whole X6 gA 45 cur := hh
                have hcc : cur = cs := by
                  unfold Whole at hw hcs
                  rw [hw] at hcs
                  injection hcs with hcs
                  injection hcs
                rw [← hcc]
                have hl := congrArg List.length ht
                rw [List.length_take, flatE_length, HLE.out, Array.length_toList] at hl
                omega)
            have HBD2 := Lib.hid (show Bd (pushS S l) last (v + e) (k + 1) from by have := HBD.out.push l (by rw [HLE.out]; exact hen); rw [HLE.out] at this; exact this)
            obtain ⟨S5, hS5⟩ : ∃ S5, pushS S l = S5 := ⟨_, rfl⟩
            rw [hS5] at HZ HBD2
            clear hp hr6 hb6 hP6 hsub hk6 HP5 HO5 HB5 HQ5 HG4 HR5 HSX HBD HEO HLE hS5
            clear X4 X5
            go_wp2_with fail
            go_loopw [15] (fun jj Y => ∃ j : Nat, j ≤ e ∧ jj = .int .i64 j ∧ ZW w (some ⟨b, off, none⟩) N Q F G6 g x S5 last A3 e Y) (fun jj _ => e - (intOf jj).toNat)
            case atStart => exact ⟨0, Nat.zero_le _, rfl, HZ.out⟩
            case round =>
              obtain ⟨j, hj, rfl, hz⟩ := hrel
              have HZ2 := Lib.hid hz
              clear hz HZ
              by_cases hje : j < e
              · obtain ⟨gA, cs, rfl, hcs, hsz, hFA, hGA, hBA⟩ := HZ2.out.row (by omega)
                obtain ⟨u, hu⟩ : ∃ u, cs[j * 34 + 33]? = some u := ⟨_, Array.getElem?_eq_getElem (by omega)⟩
                have c1 := (hcs.cell (j * 34 + 33)).trans hu
                have f1 := hcs.free (j * 34 + 33)
                have HZ3 := Lib.hid (HZ2.out.set hcs hsz hFA hGA hBA (j * 34 + 33) (.int .u64 0))
                have hje' : (j : Int) < (e : Int) := by omega
                clear hcs hsz hFA hGA hBA hu HZ2
                go_wp2_with fail
                go_round
                case rel => exact ⟨j + 1, by omega, by go_num, HZ3.out⟩
                case measure => simp [intOf]; omega
              · have HT := Lib.hid (show LvW w (some ⟨b, off, none⟩) N Q g x (v + e) (k + 1) S5 last wr from ⟨HZ2.out.bel, HZ2.out.ops, ⟨_, _, HZ2.out.p2⟩, HBD2.out⟩)
                clear HZ2 HBD2
                obtain ⟨S9, hS9⟩ : ∃ S9, S5 = S9 := ⟨_, rfl⟩
                rw [hS9] at HT
                clear hS9
                obtain ⟨F9, G9, hP⟩ := HT.out.p2
                have HWC := Lib.hid (who_any hP.f.1 HT.out.bd.len)
                have HLN := HT.out.bd.len
                obtain ⟨n, hn⟩ : ∃ n, List.length S9 = n := ⟨_, rfl⟩
                have HN9 := Lib.hid hn
                rw [hn] at HLN
                clear hP hn
                clear F9 G9
                go_wp2_with fail
                refine HWC.out.mono ?_
                rintro e Xw ⟨Aw, cw, rfl, hown, hbw⟩
                have HT2 := Lib.hid (HT.out.below hbw)
                obtain ⟨F9, G9, hP⟩ := HT2.out.p2
                have C1 := Lib.hid (waits_any hP.f.1 id HID.out)
                have C2 := Lib.hid (rwaits_any hP.r (by have := HT2.out.bd.len; omega) (fun p hp => hP.f.1.ok p hp) id)
                obtain ⟨R, AR, cR, hRW, hRS, _⟩ := hP.r
                have hRl : R.length = n := by rw [← HN9.out, ← hRS, stR_length]
                have cx := hRW.obj.cell 0
                rw [hRl] at cx
                have cx : Xw.cell? ⟨x, 0, none⟩ = some (.slice AR n cR) := cx
                rw [HN9.out] at hown ⊢
                have HOW := Lib.hid hown
                have HRW := Lib.hid hRW
                have HRS := Lib.hid (show stR R = S9 ∧ R.length = n from ⟨hRS, hRl⟩)
                generalize waitsS S9 id = wv at C1 C2
                clear hown hbw hRW hRS hRl HT HWC hP
                clear F9
                go_wp2_with fail
                refine C1.out.mono ?_
                rintro e w1 ⟨rfl, rfl⟩
                go_wp2_with fail
                refine C2.out.mono ?_
                rintro e w1 ⟨rfl, rfl⟩
                go_wp2_with fail
                clear C1 C2
                go_loopw [21] (fun kk X => ∃ j : Nat, j ≤ n ∧ kk = .int .i64 j ∧ Below Xw.heap.size Xw X) (fun kk _ => n - (intOf kk).toNat)
                case atStart => exact ⟨0, Nat.zero_le _, rfl, Below.refl _ _⟩
                case round =>
                  obtain ⟨j, hj, rfl, hbj⟩ := hrel
                  have HBJ := Lib.hid hbj
                  clear hbj cx
                  by_cases hjn : j < n
                  · obtain ⟨r, hr⟩ : ∃ r, R[j]? = some r := ⟨_, List.getElem?_eq_getElem (by rw [HRS.out.2]; exact hjn)⟩
                    obtain ⟨gR, rfl, hgR, hrr, _⟩ := HRW.out.cell hr
                    have hidj : (ids S9)[j]? = some r.id := by rw [← HRS.out.1, ids_stR, List.getElem?_map, hr]; rfl
                    obtain ⟨gw, rfl, _, hgw, hcw⟩ := own_cells HOW.out (by omega)
                    have c1 := (HBJ.out.cell (p := ⟨gw, j, none⟩) hgw).trans (hcw j _ (us_get hidj)).1
                    have c2 := (HBJ.out.cell (p := ⟨gR, j * 3, none⟩) hgR).trans (hrr 0 _ rfl)
                    have c3 := (HBJ.out.cell (p := ⟨x, 0, none⟩) HRW.out.obj.lt).trans (HRW.out.obj.cell 0)
                    rw [HRS.out.2] at c3
                    have c3 : wr.cell? ⟨x, 0, none⟩ = some (.slice (some ⟨gR, 0, none⟩) n cR) := c3
                    have hjn' : (j : Int) < (n : Int) := by omega
                    generalize r.id = rid at c1 c2
                    clear hr hgR hrr hidj hgw hcw
                    go_wp2_with fail
                    go_quiet (fail)
                    go_wp2_with fail
                    go_round
                    case rel => exact ⟨j + 1, by omega, by go_num, Mem.below_drewN HBJ.out _⟩
                    case measure => simp [intOf]; omega
                  · have HT3 := Lib.hid (HT2.out.below HBJ.out)
                    go_wp2_with fail
                    go_roundw
                    case rel => exact ⟨k + 1, v + e, S9, _, by omega, by omega, by go_num, by go_num, HT3.out⟩
                    case measure => simp [intOf]; omega
          · have hk2'' : (kd == 2) = false := beq_eq_false_iff_ne.2 hk2'
            by_cases hk3 : kd = 3
            · subst hk3
              have c1 := HBX.out.cell 1
              have c2 := HBX.out.cell 2
              have HND := Lib.hid HP.out.f.1.nd
              cases hat : at_ S oo with
              | none =>
                have HC1 := Lib.hid (take_out HP.out.f.1 oo HOO.out nn (at_none_iff.1 hat))
                have HC2 := Lib.hid (rtake_any HP.out.r (by have := HBD.out.len; omega) HND.out (fun p hp => HP.out.f.1.ok p hp) oo nn)
                have HT := Lib.hid (show LvW w (some ⟨b, off, none⟩) N Q g x v (k + 1) S last X from ⟨HB.out, HQ.out, ⟨_, _, HP.out⟩, HBD.out.next⟩)
                have HAT := Lib.hid hat
                clear HP HB HQ HBD HFL HNB hat
                go_wp2_with fail
                refine HC1.out.mono ?_
                rintro e X2 ⟨rfl, rfl⟩
                go_wp2_with fail
                refine HC2.out.mono ?_
                rintro e X3 (⟨y, A3, c3, hy, _⟩ | ⟨_, rfl, rfl⟩)
                · rw [HAT.out] at hy
                  cases hy
                have HZ := Lib.hid (its_nil X)
                have HOB := Lib.hid (owi_nil X w.heap.size)
                have HLK := Lib.hid (show ∀ y ∈ ([] : List It), OkIt y from fun y hy => by cases hy)
                have HLL := Lib.hid (show ([] : List It).length ≤ 17 from Nat.zero_le _)
                obtain ⟨Ab, hAb⟩ : ∃ Ab : Option Addr, none = Ab := ⟨_, rfl⟩
                obtain ⟨cb, hcb⟩ : ∃ cb : Nat, 0 = cb := ⟨_, rfl⟩
                clear HC1 HC2 HAT c1 c2 HBX
                have HZ : Hid (Its X (.slice none 0 0) []) := HZ
                clear hAb hcb
                clear Ab cb
                go_wp2_with fail
                refine (as_any HZ.out (Nat.zero_le _)).mono ?_
                rintro e X4 ⟨A4, c4, rfl, ho4, hb4⟩
                have HSM := Lib.hid (rsame_any [] A4 none c4 0 _ _ X4 ho4 (owi_nil X4 0) HLK.out (Nat.zero_le _))
                have HT4 := Lib.hid (HT.out.below hb4)
                clear ho4 hb4 HT HZ HOB
                simp only [List.length_nil] at HSM ⊢
                go_wp2_with fail
                refine HSM.out.mono ?_
                rintro e X5 ⟨rfl, hb5⟩
                have HT := Lib.hid (HT4.out.below hb5)
                clear hb5 HT4 HSM
                obtain ⟨S9, hS9⟩ : ∃ S9, S = S9 := ⟨_, rfl⟩
                rw [hS9] at HT
                clear hS9
                obtain ⟨F9, G9, hP⟩ := HT.out.p2
                have HWC := Lib.hid (who_any hP.f.1 HT.out.bd.len)
                have HLN := HT.out.bd.len
                obtain ⟨n, hn⟩ : ∃ n, List.length S9 = n := ⟨_, rfl⟩
                have HN9 := Lib.hid hn
                rw [hn] at HLN
                clear hP hn
                clear F9 G9
                go_wp2_with fail
                refine HWC.out.mono ?_
                rintro e Xw ⟨Aw, cw, rfl, hown, hbw⟩
                have HT2 := Lib.hid (HT.out.below hbw)
                obtain ⟨F9, G9, hP⟩ := HT2.out.p2
                have C1 := Lib.hid (waits_any hP.f.1 id HID.out)
                have C2 := Lib.hid (rwaits_any hP.r (by have := HT2.out.bd.len; omega) (fun p hp => hP.f.1.ok p hp) id)
                obtain ⟨R, AR, cR, hRW, hRS, _⟩ := hP.r
                have hRl : R.length = n := by rw [← HN9.out, ← hRS, stR_length]
                have cx := hRW.obj.cell 0
                rw [hRl] at cx
                have cx : Xw.cell? ⟨x, 0, none⟩ = some (.slice AR n cR) := cx
                rw [HN9.out] at hown ⊢
                have HOW := Lib.hid hown
                have HRW := Lib.hid hRW
                have HRS := Lib.hid (show stR R = S9 ∧ R.length = n from ⟨hRS, hRl⟩)
                generalize waitsS S9 id = wv at C1 C2
                clear hown hbw hRW hRS hRl HT HWC hP
                clear F9
                go_wp2_with fail
                refine C1.out.mono ?_
                rintro e w1 ⟨rfl, rfl⟩
                go_wp2_with fail
                refine C2.out.mono ?_
                rintro e w1 ⟨rfl, rfl⟩
                go_wp2_with fail
                clear C1 C2
                go_loopw [21] (fun kk X => ∃ j : Nat, j ≤ n ∧ kk = .int .i64 j ∧ Below Xw.heap.size Xw X) (fun kk _ => n - (intOf kk).toNat)
                case atStart => exact ⟨0, Nat.zero_le _, rfl, Below.refl _ _⟩
                case round =>
                  obtain ⟨j, hj, rfl, hbj⟩ := hrel
                  have HBJ := Lib.hid hbj
                  clear hbj cx
                  by_cases hjn : j < n
                  · obtain ⟨r, hr⟩ : ∃ r, R[j]? = some r := ⟨_, List.getElem?_eq_getElem (by rw [HRS.out.2]; exact hjn)⟩
                    obtain ⟨gR, rfl, hgR, hrr, _⟩ := HRW.out.cell hr
                    have hidj : (ids S9)[j]? = some r.id := by rw [← HRS.out.1, ids_stR, List.getElem?_map, hr]; rfl
                    obtain ⟨gw, rfl, _, hgw, hcw⟩ := own_cells HOW.out (by omega)
                    have c1 := (HBJ.out.cell (p := ⟨gw, j, none⟩) hgw).trans (hcw j _ (us_get hidj)).1
                    have c2 := (HBJ.out.cell (p := ⟨gR, j * 3, none⟩) hgR).trans (hrr 0 _ rfl)
                    have c3 := (HBJ.out.cell (p := ⟨x, 0, none⟩) HRW.out.obj.lt).trans (HRW.out.obj.cell 0)
                    rw [HRS.out.2] at c3
                    have c3 : wr.cell? ⟨x, 0, none⟩ = some (.slice (some ⟨gR, 0, none⟩) n cR) := c3
                    have hjn' : (j : Int) < (n : Int) := by omega
                    generalize r.id = rid at c1 c2
                    clear hr hgR hrr hidj hgw hcw
                    go_wp2_with fail
                    go_quiet (fail)
                    go_wp2_with fail
                    go_round
                    case rel => exact ⟨j + 1, by omega, by go_num, Mem.below_drewN HBJ.out _⟩
                    case measure => simp [intOf]; omega
                  · have HT3 := Lib.hid (HT2.out.below HBJ.out)
                    go_wp2_with fail
                    go_roundw
                    case rel => exact ⟨k + 1, v, S9, _, by omega, by omega, by go_num, by go_num, HT3.out⟩
                    case measure => simp [intOf]; omega
              | some y =>
                have HC1 := Lib.hid (take_in HP.out.f.1 oo HOO.out nn hat)
                have HAT := Lib.hid hat
                have HYO := Lib.hid (HP.out.f.1.ok (oo, y) (at_mem hat))
                have HYL := Lib.hid (show y.lost ≤ 18446744073709551615 from by have h1 := HBD.out.lost (oo, y) (at_mem hat); have h2 := HBD.out.vk; have h3 : (oo, y).2.lost = y.lost := rfl; omega)
                clear hat
                go_wp2_with fail
                refine HC1.out.mono ?_
                rintro e X2 ⟨z, rfl, hz, hf2, hk2⟩
                have hB2 := HP.out.bl HB.out.size hk2
                have HP2 := Lib.hid (HP.out.left ⟨hf2, fun i hi => ⟨(HP.out.f.2 i hi).1, Nat.lt_of_lt_of_le (HP.out.f.2 i hi).2 hk2.size⟩⟩ hk2 (fun i hi => .inl hi))
                have HB2 := Lib.hid (HB.out.trans hB2)
                have HQ2 := Lib.hid (HQ.out.below hB2)
                have HBX2 := Lib.hid (hk2.whole HBX.out HNB.out.1)
                have HZ2 := Lib.hid hz
                have HC2 := Lib.hid (rtake_any HP2.out.r (by have := HBD.out.len; omega) HND.out (fun p hp => HP.out.f.1.ok p hp) oo nn)
                clear hz hf2 hk2 hB2 HP HB HQ HBX HC1 c1 c2
                have c1 := HBX2.out.cell 1
                have c2 := HBX2.out.cell 2
                go_wp2_with fail
                refine HC2.out.mono ?_
                rintro e X3 (⟨y2, Ab, cb, hy, rfl, hob, hr3⟩ | ⟨hy, _⟩)
                · rw [HAT.out] at hy
                  injection hy with hy
                  subst hy
                  have hb3 := HP2.out.br HB2.out.size hr3
                  have HZ := Lib.hid (show Its X3 z (takeL y nn) from by
                    obtain ⟨G', _, _, hk3⟩ := hr3
                    exact HZ2.out.keep hk3.items)
                  obtain ⟨G3, hP3⟩ := HP2.out.right hr3
                  have HT := Lib.hid (show LvW w (some ⟨b, off, none⟩) N Q g x v (k + 1) (putS S oo (takeW y nn)) last X3 from ⟨HB2.out.trans hb3, HQ2.out.below hb3, ⟨_, _, hP3⟩, HBD.out.take HAT.out nn⟩)
                  have HOB := Lib.hid hob
                  have HLK := Lib.hid (ok_takeL HYO.out HYL.out nn)
                  have HLL := Lib.hid (few_takeL HYO.out nn)
                  generalize takeL y nn = L at HZ HOB HLK HLL ⊢
                  clear hob hr3 hb3 hP3 HP2 HB2 HQ2 HBX2 HZ2 HC2 HYO HYL HAT HBD HFL HNB c1 c2
                  go_wp2_with fail
                  refine (as_any HZ.out (by have := HLL.out; omega)).mono ?_
                  rintro e X4 ⟨A4, c4, rfl, ho4, hb4⟩
                  have HSM := Lib.hid (rsame_any L A4 Ab c4 cb _ _ X4 ho4 (own_keep HOB.out hb4) HLK.out (by have := HLL.out; omega))
                  have HT4 := Lib.hid (HT.out.below hb4)
                  clear ho4 hb4 HT HZ HOB
                  generalize L.length = ll at HSM ⊢
                  go_wp2_with fail
                  refine HSM.out.mono ?_
                  rintro e X5 ⟨rfl, hb5⟩
                  have HT := Lib.hid (HT4.out.below hb5)
                  clear hb5 HT4 HSM
                  obtain ⟨S9, hS9⟩ : ∃ S9, putS S oo (takeW y nn) = S9 := ⟨_, rfl⟩
                  rw [hS9] at HT
                  clear hS9
                  obtain ⟨F9, G9, hP⟩ := HT.out.p2
                  have HWC := Lib.hid (who_any hP.f.1 HT.out.bd.len)
                  have HLN := HT.out.bd.len
                  obtain ⟨n, hn⟩ : ∃ n, List.length S9 = n := ⟨_, rfl⟩
                  have HN9 := Lib.hid hn
                  rw [hn] at HLN
                  clear hP hn
                  clear F9 G9
                  go_wp2_with fail
                  refine HWC.out.mono ?_
                  rintro e Xw ⟨Aw, cw, rfl, hown, hbw⟩
                  have HT2 := Lib.hid (HT.out.below hbw)
                  obtain ⟨F9, G9, hP⟩ := HT2.out.p2
                  have C1 := Lib.hid (waits_any hP.f.1 id HID.out)
                  have C2 := Lib.hid (rwaits_any hP.r (by have := HT2.out.bd.len; omega) (fun p hp => hP.f.1.ok p hp) id)
                  obtain ⟨R, AR, cR, hRW, hRS, _⟩ := hP.r
                  have hRl : R.length = n := by rw [← HN9.out, ← hRS, stR_length]
                  have cx := hRW.obj.cell 0
                  rw [hRl] at cx
                  have cx : Xw.cell? ⟨x, 0, none⟩ = some (.slice AR n cR) := cx
                  rw [HN9.out] at hown ⊢
                  have HOW := Lib.hid hown
                  have HRW := Lib.hid hRW
                  have HRS := Lib.hid (show stR R = S9 ∧ R.length = n from ⟨hRS, hRl⟩)
                  generalize waitsS S9 id = wv at C1 C2
                  clear hown hbw hRW hRS hRl HT HWC hP
                  clear F9
                  go_wp2_with fail
                  refine C1.out.mono ?_
                  rintro e w1 ⟨rfl, rfl⟩
                  go_wp2_with fail
                  refine C2.out.mono ?_
                  rintro e w1 ⟨rfl, rfl⟩
                  go_wp2_with fail
                  clear C1 C2
                  go_loopw [21] (fun kk X => ∃ j : Nat, j ≤ n ∧ kk = .int .i64 j ∧ Below Xw.heap.size Xw X) (fun kk _ => n - (intOf kk).toNat)
                  case atStart => exact ⟨0, Nat.zero_le _, rfl, Below.refl _ _⟩
                  case round =>
                    obtain ⟨j, hj, rfl, hbj⟩ := hrel
                    have HBJ := Lib.hid hbj
                    clear hbj cx
                    by_cases hjn : j < n
                    · obtain ⟨r, hr⟩ : ∃ r, R[j]? = some r := ⟨_, List.getElem?_eq_getElem (by rw [HRS.out.2]; exact hjn)⟩
                      obtain ⟨gR, rfl, hgR, hrr, _⟩ := HRW.out.cell hr
                      have hidj : (ids S9)[j]? = some r.id := by rw [← HRS.out.1, ids_stR, List.getElem?_map, hr]; rfl
                      obtain ⟨gw, rfl, _, hgw, hcw⟩ := own_cells HOW.out (by omega)
                      have c1 := (HBJ.out.cell (p := ⟨gw, j, none⟩) hgw).trans (hcw j _ (us_get hidj)).1
                      have c2 := (HBJ.out.cell (p := ⟨gR, j * 3, none⟩) hgR).trans (hrr 0 _ rfl)
                      have c3 := (HBJ.out.cell (p := ⟨x, 0, none⟩) HRW.out.obj.lt).trans (HRW.out.obj.cell 0)
                      rw [HRS.out.2] at c3
                      have c3 : wr.cell? ⟨x, 0, none⟩ = some (.slice (some ⟨gR, 0, none⟩) n cR) := c3
                      have hjn' : (j : Int) < (n : Int) := by omega
                      generalize r.id = rid at c1 c2
                      clear hr hgR hrr hidj hgw hcw
                      go_wp2_with fail
                      go_quiet (fail)
                      go_wp2_with fail
                      go_round
                      case rel => exact ⟨j + 1, by omega, by go_num, Mem.below_drewN HBJ.out _⟩
                      case measure => simp [intOf]; omega
                    · have HT3 := Lib.hid (HT2.out.below HBJ.out)
                      go_wp2_with fail
                      go_roundw
                      case rel => exact ⟨k + 1, v, S9, _, by omega, by omega, by go_num, by go_num, HT3.out⟩
                      case measure => simp [intOf]; omega
                · rw [HAT.out] at hy
                  cases hy
            · have hk3' : (kd == 3) = false := beq_eq_false_iff_ne.2 hk3
              have HT := Lib.hid (show LvW w (some ⟨b, off, none⟩) N Q g x v (k + 1) S last X from ⟨HB.out, HQ.out, ⟨_, _, HP.out⟩, HBD.out.next⟩)
              clear HP HB HQ HBX HBD HFL HNB
              obtain ⟨S9, hS9⟩ : ∃ S9, S = S9 := ⟨_, rfl⟩
              rw [hS9] at HT
              clear hS9
              obtain ⟨F9, G9, hP⟩ := HT.out.p2
              have HWC := Lib.hid (who_any hP.f.1 HT.out.bd.len)
              have HLN := HT.out.bd.len
              obtain ⟨n, hn⟩ : ∃ n, List.length S9 = n := ⟨_, rfl⟩
              have HN9 := Lib.hid hn
              rw [hn] at HLN
              clear hP hn
              clear F9 G9
              go_wp2_with fail
              refine HWC.out.mono ?_
              rintro e Xw ⟨Aw, cw, rfl, hown, hbw⟩
              have HT2 := Lib.hid (HT.out.below hbw)
              obtain ⟨F9, G9, hP⟩ := HT2.out.p2
              have C1 := Lib.hid (waits_any hP.f.1 id HID.out)
              have C2 := Lib.hid (rwaits_any hP.r (by have := HT2.out.bd.len; omega) (fun p hp => hP.f.1.ok p hp) id)
              obtain ⟨R, AR, cR, hRW, hRS, _⟩ := hP.r
              have hRl : R.length = n := by rw [← HN9.out, ← hRS, stR_length]
              have cx := hRW.obj.cell 0
              rw [hRl] at cx
              have cx : Xw.cell? ⟨x, 0, none⟩ = some (.slice AR n cR) := cx
              rw [HN9.out] at hown ⊢
              have HOW := Lib.hid hown
              have HRW := Lib.hid hRW
              have HRS := Lib.hid (show stR R = S9 ∧ R.length = n from ⟨hRS, hRl⟩)
              generalize waitsS S9 id = wv at C1 C2
              clear hown hbw hRW hRS hRl HT HWC hP
              clear F9
              go_wp2_with fail
              refine C1.out.mono ?_
              rintro e w1 ⟨rfl, rfl⟩
              go_wp2_with fail
              refine C2.out.mono ?_
              rintro e w1 ⟨rfl, rfl⟩
              go_wp2_with fail
              clear C1 C2
              go_loopw [21] (fun kk X => ∃ j : Nat, j ≤ n ∧ kk = .int .i64 j ∧ Below Xw.heap.size Xw X) (fun kk _ => n - (intOf kk).toNat)
              case atStart => exact ⟨0, Nat.zero_le _, rfl, Below.refl _ _⟩
              case round =>
                obtain ⟨j, hj, rfl, hbj⟩ := hrel
                have HBJ := Lib.hid hbj
                clear hbj cx
                by_cases hjn : j < n
                · obtain ⟨r, hr⟩ : ∃ r, R[j]? = some r := ⟨_, List.getElem?_eq_getElem (by rw [HRS.out.2]; exact hjn)⟩
                  obtain ⟨gR, rfl, hgR, hrr, _⟩ := HRW.out.cell hr
                  have hidj : (ids S9)[j]? = some r.id := by rw [← HRS.out.1, ids_stR, List.getElem?_map, hr]; rfl
                  obtain ⟨gw, rfl, _, hgw, hcw⟩ := own_cells HOW.out (by omega)
                  have c1 := (HBJ.out.cell (p := ⟨gw, j, none⟩) hgw).trans (hcw j _ (us_get hidj)).1
                  have c2 := (HBJ.out.cell (p := ⟨gR, j * 3, none⟩) hgR).trans (hrr 0 _ rfl)
                  have c3 := (HBJ.out.cell (p := ⟨x, 0, none⟩) HRW.out.obj.lt).trans (HRW.out.obj.cell 0)
                  rw [HRS.out.2] at c3
                  have c3 : wr.cell? ⟨x, 0, none⟩ = some (.slice (some ⟨gR, 0, none⟩) n cR) := c3
                  have hjn' : (j : Int) < (n : Int) := by omega
                  generalize r.id = rid at c1 c2
                  clear hr hgR hrr hidj hgw hcw
                  go_wp2_with fail
                  go_quiet (fail)
                  go_wp2_with fail
                  go_round
                  case rel => exact ⟨j + 1, by omega, by go_num, Mem.below_drewN HBJ.out _⟩
                  case measure => simp [intOf]; omega
                · have HT3 := Lib.hid (HT2.out.below HBJ.out)
                  go_wp2_with fail
                  go_roundw
                  case rel => exact ⟨k + 1, v, S9, _, by omega, by omega, by go_num, by go_num, HT3.out⟩
                  case measure => simp [intOf]; omega
    · have HAL := Lib.hid (alive_ok wr)
      have HB := Lib.hid HW.out.bel
      clear HW
      by_cases h1 : (k : Int) < (N : Int)
      · have h2 : ¬ (k : Int) < 120 := by omega
        have h2' : ¬ k < 120 := by omega
        go_wp2_with fail
        refine HAL.out.mono ?_
        rintro e w2 ⟨rfl, hb2⟩
        have HB2 := Lib.hid (below_trans HB.out hb2)
        clear hb2 HB HAL
        go_wp2_with fail
        go_ret
        exact ⟨rfl, HB2.out⟩
      · skip
        go_wp2_with fail
        refine HAL.out.mono ?_
        rintro e w2 ⟨rfl, hb2⟩
        have HB2 := Lib.hid (below_trans HB.out hb2)
        clear hb2 HB HAL
        go_wp2_with fail
        go_ret
        exact ⟨rfl, HB2.out⟩
theorem walk (A : Option Addr) (N c : Nat) (a : Int) (w : World) (h : Shp.Good w (.list (.obj shOp)) [.slice A N c]) (ha : (Lit.int .u64 a).wf = true) :
    Calls Try.prog 3 #[.slice A N c, .int .u64 a] w fun e w' => e = .returned (.bool true) ∧ Below w.heap.size w w' := by
  obtain ⟨hN, Q, hQ⟩ := open_ops h
  obtain ⟨v, rfl, _⟩ := nat_u64 ha
  exact walk0 A N c Q v ha w hQ hN
end FeedLives
end Go.Proofs.Ytlbfjdpcnnplnaa
