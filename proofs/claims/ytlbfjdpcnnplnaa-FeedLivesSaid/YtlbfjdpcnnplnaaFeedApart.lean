/- The walk of FeedApart. -/
import Derived.Test.YtlbfjdpcnnplnaaFdEq
import Derived.Test.YtlbfjdpcnnplnaaFdArg
namespace Go.Proofs.Ytlbfjdpcnnplnaa
namespace FeedApart
open Go.ChangeShapes Go.WideShapes Go.ChangeAt Go.RowKit Go.Maps
open Num Mem Words Chacha Aead Poly Quiet RowV RowS Fee

def Dj (F G : Nat → Prop) : Prop := ∀ i, F i → ¬ G i
theorem Dj.symm {F G : Nat → Prop} (h : Dj F G) : Dj G F := fun i h1 h2 => h i h2 h1
theorem FB.fk {B : Nat} {X Y : World} {F G : Nat → Prop} {g last : Nat} {S : St} (h : FB B X F g S last) (hk : Fk G X Y) (hd : Dj F G) : FB B Y F g S last :=
  ⟨h.1.fk hk hd, fun i hi => ⟨(h.2 i hi).1, Nat.lt_of_lt_of_le (h.2 i hi).2 hk.size⟩⟩
theorem OwE.fk {X Y : World} {F : Nat → Prop} {base c : Nat} {A : Option Addr} {l : List Ev} (h : OwE X base A c l) (hk : Fk F X Y) (hF : ∀ i, F i → i < base) : OwE Y base A c l := by
  refine ⟨h.1, ?_⟩
  rcases h.2 with h0 | ⟨g, cap, cur, e, hb, hh, rest⟩
  · exact Or.inl h0
  · have hw : Whole X g 45 cur := hh
    exact Or.inr ⟨g, cap, cur, e, hb, hk.whole hw (fun c => by have := hF g c; omega), rest⟩
/-- three feeds that lie apart -/
structure T3 (B : Nat) (X : World) (ga go gt : Nat) (Sa So St_ : St) (la lo lt : Nat) (Fa Fo Ft : Nat → Prop) : Prop where
  a : FB B X Fa ga Sa la
  o : FB B X Fo go So lo
  t : FB B X Ft gt St_ lt
  ao : Dj Fa Fo
  aq : Dj Fa Ft
  ot : Dj Fo Ft
section
variable {B ga go gt la lo lt : Nat} {X Y : World} {Sa So Sc : St} {Fa Fo Ft : Nat → Prop}
theorem T3.below (h : T3 B X ga go gt Sa So Sc la lo lt Fa Fo Ft) (hb : Below X.heap.size X Y) : T3 B Y ga go gt Sa So Sc la lo lt Fa Fo Ft := ⟨h.a.below hb, h.o.below hb, h.t.below hb, h.ao, h.aq, h.ot⟩
/-- the same, the second one ahead -/
theorem T3.swap (h : T3 B X ga go gt Sa So Sc la lo lt Fa Fo Ft) : T3 B X go ga gt So Sa Sc lo la lt Fo Fa Ft := ⟨h.o, h.a, h.t, h.ao.symm, h.ot, h.aq⟩
theorem T3.swap3 (h : T3 B X ga go gt Sa So Sc la lo lt Fa Fo Ft) : T3 B X gt go ga Sc So Sa lt lo la Ft Fo Fa := ⟨h.t, h.o, h.a, h.ot.symm, h.aq.symm, h.ao.symm⟩
theorem T3.push (h : T3 B X ga go gt Sa So Sc la lo lt Fa Fo Ft) (hBX : B ≤ X.heap.size) {base : Nat} (hF : ∀ i, Fa i → i < base) {A : Option Addr} {c : Nat} {l : List Ev} (ho : OwE X base A c l)
    (hok : ∀ e ∈ l, OkEv e) (hl : ∀ p ∈ Sa, p.2.lost + l.length ≤ 1000000000) (hll : l.length ≤ 1000000000) :
    Calls Try.prog 14 #[.pointer (some ⟨ga, 0, none⟩), .slice A l.length c] X fun e Y => e = .returned (.tuple #[]) ∧ T3 B Y ga go gt (pushS Sa l) So Sc la lo lt Fa Fo Ft ∧ OwE Y base A c l ∧ Below B X Y := by
  refine (push_ev h.a hBX hF ho hok hl hll).mono ?_
  rintro e Y ⟨rfl, hf, hk, hb⟩
  exact ⟨rfl, ⟨hf, FB.fk h.o hk h.ao.symm, FB.fk h.t hk h.aq.symm, h.ao, h.aq, h.ot⟩, OwE.fk ho hk hF, hb⟩
theorem T3.take (h : T3 B X ga go gt Sa So Sc la lo lt Fa Fo Ft) (hBX : B ≤ X.heap.size) (o : Nat) (ho : o ≤ 1000000000) (n : Int) {x : Wt} (hx : at_ Sa o = some x) :
    Calls Try.prog 17 #[.pointer (some ⟨ga, 0, none⟩), .int .u64 (o : Nat), .int .i64 n] X fun e Y => ∃ z, e = .returned (.tuple #[z, .int .i64 0]) ∧ Its Y z (takeL x n) ∧ T3 B Y ga go gt (putS Sa o (takeW x n)) So Sc la lo lt Fa Fo Ft ∧ (∀ u L, Its X u L → Its Y u L) ∧ (∀ i t cs, ¬ Fa i → Whole X i t cs → Whole Y i t cs) ∧ Below B X Y := by
  refine (take_ev h.a hBX o ho n hx).mono ?_
  rintro e Y ⟨z, rfl, hz, hf, hk, hb⟩
  exact ⟨z, rfl, hz, ⟨hf, FB.fk h.o hk h.ao.symm, FB.fk h.t hk h.aq.symm, h.ao, h.aq, h.ot⟩, fun u L hu => hu.keep hk.items, fun i t cs hi hw => hk.whole hw hi, hb⟩
theorem T3.watch (h : T3 B X ga go gt Sa So Sc la lo lt Fa Fo Ft) (hBX : B ≤ X.heap.size) (hS : Sa.length < 8) (hla : la < 1000000000) :
    Calls Try.prog 9 #[.pointer (some ⟨ga, 0, none⟩)] X fun e Y => e = .returned (.tuple #[.int .u64 (la + 1 : Nat), .int .i64 0]) ∧ (∃ Fa', T3 B Y ga go gt (Sa ++ [(la + 1, ⟨[], 0⟩)]) So Sc (la + 1) lo lt Fa' Fo Ft) ∧ Below B X Y := by
  refine (watch_ok h.a.1 hS hla).mono ?_
  rintro e Y ⟨rfl, hf, hk⟩
  refine ⟨rfl, ⟨_, h.a.grow hBX hf, FB.fk h.o hk h.ao.symm, FB.fk h.t hk h.aq.symm, ?_, ?_, h.ot⟩, hk.below hBX fun i hi => (h.a.2 i hi).1⟩
  · rintro i ⟨hi | hi, _⟩ hj
    · exact h.ao i hi hj
    · have := (h.o.2 i hj).2
      omega
  · rintro i ⟨hi | hi, _⟩ hj
    · exact h.aq i hi hj
    · have := (h.t.2 i hj).2
      omega
end
theorem putS_first (x y z : Wt) : putS [(1, x), (2, y)] 1 z = [(1, z), (2, y)] := by simp [putS]
theorem putS_second (x y z : Wt) : putS [(1, x), (2, y)] 2 z = [(1, x), (2, z)] := by simp [putS]
theorem at_first (x y : Wt) : at_ [(1, x), (2, y)] 1 = some x := rfl
theorem at_second (x y : Wt) : at_ [(1, x), (2, y)] 2 = some y := rfl
theorem lost_take (x : Wt) (n : Int) : (takeW x n).lost ≤ x.lost := by
  unfold takeW
  dsimp only
  split <;> omega
/-- the loop's world -/
structure LoW (w : World) (A : Option Addr) (N : Nat) (Q : Nat → OpV) (ga go gt : Nat) (xa xb : Wt) (X : World) : Prop where
  bel : Below w.heap.size w X
  ops : IsOps w.heap.size X A N Q
  t3 : ∃ Fa Fo Ft, T3 w.heap.size X ga go gt [(1, xa), (2, xb)] [(1, xa)] [(1, xb)] 2 1 1 Fa Fo Ft
theorem LoW.below {w : World} {A : Option Addr} {N : Nat} {Q : Nat → OpV} {ga go gt : Nat} {xa xb : Wt} {X Y : World} (h : LoW w A N Q ga go gt xa xb X) (hb : Below X.heap.size X Y) : LoW w A N Q ga go gt xa xb Y := by
  obtain ⟨h1, h2, Fa, Fo, Ft, h3⟩ := h
  exact ⟨below_trans h1 hb, h2.below (hb.mono h1.size), Fa, Fo, Ft, h3.below hb⟩
set_option maxRecDepth 100000 in
set_option maxHeartbeats 4000000 in
theorem walk0 (A : Option Addr) (N c : Nat) (Q : Nat → OpV) (w : World) (hQ : IsOps w.heap.size w A N Q) (hN : N ≤ 9223372036854775807) : Calls Try.prog 6 #[.slice A N c] w fun e w' => e = .returned (.bool true) ∧ Below w.heap.size w w' := by
  have HQ := Lib.hid hQ
  clear hQ
  go_enter Try.func6, Try.ntmps6
  go_wp2_with fail
  refine (new_any w).mono ?_
  rintro o X1 ⟨ga, rfl, hb1, hf1⟩
  have HF1 := Lib.hid (FB.new hf1 (Nat.le_refl _))
  have HB1 := Lib.hid hb1
  clear hf1 hb1
  go_wp2_with fail
  refine (new_any X1).mono ?_
  rintro o X2 ⟨go, rfl, hb2, hf2⟩
  have HF2 := Lib.hid (FB.new hf2 HB1.out.size)
  have HF12 := Lib.hid (HF1.out.below hb2)
  have HB2 := Lib.hid (below_trans HB1.out hb2)
  clear hf2 hb2
  go_wp2_with fail
  refine (new_any X2).mono ?_
  rintro o X3 ⟨gt, rfl, hb3, hf3⟩
  have HB3 := Lib.hid (below_trans HB2.out hb3)
  have HT := Lib.hid (show ∃ Fa Fo Ft, T3 w.heap.size X3 ga go gt [] [] [] 0 0 0 Fa Fo Ft from
    ⟨_, _, _, HF12.out.below hb3, HF2.out.below hb3, FB.new hf3 HB2.out.size, fun i h1 h2 => (by have := h1.2; have := h2.1; omega), fun i h1 h2 => (by have := (HF12.out.2 i h1).2; have := h2.1; omega), fun i h1 h2 => (by have := h1.2; have := h2.1; omega)⟩)
  clear hf3 hb3 HF1 HF2 HF12 HB1 HB2
  clear X1 X2
  obtain ⟨Fa, Fo, Ft, hT0⟩ := HT.out
  go_wp2_with fail
  refine (hT0.watch HB3.out.size (by decide) (by decide)).mono ?_
  rintro o X4 ⟨rfl, ⟨Fa2, hT4⟩, hb⟩
  have HB4 := Lib.hid (HB3.out.trans hb)
  clear HT hb HB3 hT0
  go_wp2_with fail
  refine (hT4.watch HB4.out.size (by decide) (by decide)).mono ?_
  rintro o X5 ⟨rfl, ⟨Fa3, hT5⟩, hb⟩
  have HB5 := Lib.hid (HB4.out.trans hb)
  clear hb HB4 hT4
  go_wp2_with fail
  refine (hT5.swap.watch HB5.out.size (by decide) (by decide)).mono ?_
  rintro o X6 ⟨rfl, ⟨Fo2, hT6⟩, hb⟩
  have HB6 := Lib.hid (HB5.out.trans hb)
  have hT7 := hT6.swap
  clear hb HB5 hT5 hT6
  go_wp2_with fail
  refine (hT7.swap3.watch HB6.out.size (by decide) (by decide)).mono ?_
  rintro o X7 ⟨rfl, ⟨Ft2, hT8⟩, hb⟩
  have hT := hT8.swap3
  clear hT7
  have HL := Lib.hid (show LoW w A N Q ga go gt ⟨[], 0⟩ ⟨[], 0⟩ X7 from ⟨HB6.out.trans hb, HQ.out.below (HB6.out.trans hb), _, _, _, hT⟩)
  clear hT hT8 hb HB6 HQ
  clear X3 X4 X5 X6
  go_wp2_with fail
  go_loopw [14, 15, 16, 17, 18, 19, 20, 21, 22, 23, 24, 25, 66, 86, 113] (fun nx i _ _ _ _ _ _ _ _ _ _ _ _ _ X => ∃ (k v : Nat) (xa xb : Wt), k ≤ N ∧ k ≤ 100 ∧ v ≤ 1 + 40 * k ∧ i = .int .i64 k ∧ nx = .int .u64 v ∧ xa.lost ≤ v ∧ xb.lost ≤ v ∧ LoW w A N Q ga go gt xa xb X) (fun _ i _ _ _ _ _ _ _ _ _ _ _ _ _ _ => N - (intOf i).toNat)
  case atStart => exact ⟨0, 1, ⟨[], 0⟩, ⟨[], 0⟩, by omega, by omega, by omega, rfl, rfl, Nat.zero_le _, Nat.zero_le _, HL.out⟩
  case round =>
    obtain ⟨k, v, xa, xb, hk, hk2, hv, rfl, rfl, hla, hlb, hW⟩ := hrel
    have HB := Lib.hid hW.bel
    have HQ := Lib.hid hW.ops
    have HW := Lib.hid hW
    clear hW HL
    by_cases hlt : k < N ∧ k < 100
    · obtain ⟨hlt, hlt2⟩ := hlt
      obtain ⟨Fa, Fo, Ft, hT⟩ := HW.out.t3
      have HFL := Lib.hid (show (∀ i, Fa i → i < wr.heap.size) ∧ (∀ i, Fo i → i < wr.heap.size) ∧ (∀ i, Ft i → i < wr.heap.size) from ⟨fun i hi => (hT.a.2 i hi).2, fun i hi => (hT.o.2 i hi).2, fun i hi => (hT.t.2 i hi).2⟩)
      have HT := Lib.hid hT
      obtain ⟨b, off, rfl, hbl, _, _, _, hrg⟩ := HQ.out.get hlt
      have HRG := Lib.hid hrg
      obtain ⟨kd, hkd⟩ : ∃ kd, (Q k).c = kd := ⟨_, rfl⟩
      obtain ⟨oo, hoo⟩ : ∃ oo, (Q k).o = oo := ⟨_, rfl⟩
      obtain ⟨nn, hnn⟩ : ∃ nn, (Q k).n = nn := ⟨_, rfl⟩
      have hV : opL (Q k) = [.int .i64 kd, .int .u64 (oo : Nat), .int .i64 nn] := by unfold opL; rw [hkd, hoo, hnn]
      rw [hV] at HRG
      clear hT hrg hbl hkd hoo hnn hV HW
      have hlt' : (k : Int) < (N : Int) := by omega
      go_upto_region 11 with (first | (refine wpList_load_mid rfl 31 (.tmp 61) rfl b (off + k * 3) rfl _ _ HRG.out rfl rfl (by kernel_rfl) ?_) | (refine wpList_store_row rfl 31 (.tmp 16) (.tmp 62) rfl wr.heap.size #[.int .i64 kd, .int .u64 (oo : Nat), .int .i64 nn] rfl rfl 31 _ (Whole.new _ _ _) (by kernel_rfl) rfl rfl ?_))
      try simp only [Act.put]
      have hbw : Below wr.heap.size wr (wr.alloc (.cells #[.int .i64 kd, .int .u64 (oo : Nat), .int .i64 nn] 31)) := below_alloc (Below.refl _ _) _
      refine cut_world (fun X => T3 w.heap.size X ga go gt [(1, xa), (2, xb)] [(1, xa)] [(1, xb)] 2 1 1 Fa Fo Ft ∧ Whole X wr.heap.size 31 #[.int .i64 kd, .int .u64 (oo : Nat), .int .i64 nn] ∧ Below w.heap.size w X ∧ IsOps w.heap.size X (some ⟨b, off, none⟩) N Q) ⟨HT.out.below hbw, Whole.new _ _ _, below_trans HB.out hbw, HQ.out.below (hbw.mono HB.out.size)⟩ ?_
      rintro X ⟨x1, x2, x3, x4⟩
      clear HT HB HQ hbw HRG
      have HT := Lib.hid x1
      have HBX := Lib.hid x2
      have HB1 := Lib.hid x3
      have HQ1 := Lib.hid x4
      obtain ⟨NB, hNB⟩ : ∃ NB, wr.heap.size = NB := ⟨_, rfl⟩
      rw [hNB] at HBX HFL ⊢
      clear x1 x2 x3 x4 hNB
      have c0 := HBX.out.cell 0
      go_upto_region 12 with fail
      obtain ⟨r, hr⟩ : ∃ r, kd.tmod 3 = r := ⟨_, rfl⟩
      try rw [hr]
      clear hr c0
      by_cases hr0 : r = 0
      · subst hr0
        have c2 := HBX.out.cell 2
        have HEV := Lib.hid (events_any v nn (by omega) X)
        go_upto_region 13 with fail
        go_wp2_with (go_at_call 13; fail)
        refine HEV.out.mono ?_
        rintro o X3 ⟨A3, c3, rfl, ho3, hb3⟩
        have HT3 := Lib.hid (HT.out.below hb3)
        have HB3 := Lib.hid (below_trans HB1.out hb3)
        have HSX := Lib.hid (show (∀ i, Fa i → i < X.heap.size) ∧ (∀ i, Fo i → i < X.heap.size) ∧ (∀ i, Ft i → i < X.heap.size) from ⟨fun i hi => (HT.out.a.2 i hi).2, fun i hi => (HT.out.o.2 i hi).2, fun i hi => (HT.out.t.2 i hi).2⟩)
        have HO3 := Lib.hid ho3
        have HQ3 := Lib.hid (HQ1.out.below (hb3.mono HB1.out.size))
        have hen := evN_le nn
        have HLE := Lib.hid (evs_length v (evN nn))
        have HEO := Lib.hid (evs_ok v (evN nn) hen (by omega))
        have hpa := pushAll_lost (evs v (evN nn)) xa
        have hpb := pushAll_lost (evs v (evN nn)) xb
        rw [HLE.out] at hpa hpb
        generalize evs v (evN nn) = l at HO3 HLE HEO hpa hpb
        generalize evN nn = e at HLE hen hpa hpb ⊢
        obtain ⟨NX, hNX⟩ : ∃ NX, X.heap.size = NX := ⟨_, rfl⟩
        rw [hNX] at HSX HO3
        clear HEV ho3 hb3 HT HB1 HQ1 c2 HBX hNX
        clear X
        have hw1 : IntKind.u64.wrap (e : Int) = (e : Int) := by rw [IntKind.wrap_u64]; omega
        have hw2 : IntKind.u64.wrap ((v : Int) + (e : Int)) = (v : Int) + (e : Int) := by rw [IntKind.wrap_u64]; omega
        go_wp2_with fail
        have hp := HT3.out.push HB3.out.size HSX.out.1 HO3.out HEO.out (fun p hp => by
          rw [HLE.out]
          simp only [List.mem_cons, List.not_mem_nil, or_false] at hp
          rcases hp with rfl | rfl
          · show xa.lost + e ≤ _; omega
          · show xb.lost + e ≤ _; omega) (by rw [HLE.out]; omega)
        rw [HLE.out] at hp
        refine hp.mono ?_
        rintro o X4 ⟨rfl, hT4, hO4, hb4⟩
        have HT4 := Lib.hid hT4.swap
        have HO4 := Lib.hid hO4
        have HB4 := Lib.hid (HB3.out.trans hb4)
        have HQ4 := Lib.hid (HQ3.out.below hb4)
        clear hp hT4 hO4 hb4 HT3 HO3 HB3 HQ3
        go_wp2_with fail
        have hp := HT4.out.push HB4.out.size HSX.out.2.1 HO4.out HEO.out (fun p hp => by
          rw [HLE.out, List.mem_singleton.1 hp]
          show xa.lost + e ≤ _; omega) (by rw [HLE.out]; omega)
        rw [HLE.out] at hp
        refine hp.mono ?_
        rintro o X5 ⟨rfl, hT5, hO5, hb5⟩
        have HT5 := Lib.hid hT5.swap.swap3
        have HO5 := Lib.hid hO5
        have HB5 := Lib.hid (HB4.out.trans hb5)
        have HQ5 := Lib.hid (HQ4.out.below hb5)
        clear hp hT5 hO5 hb5 HT4 HO4 HB4 HQ4
        go_wp2_with fail
        have hp := HT5.out.push HB5.out.size HSX.out.2.2 HO5.out HEO.out (fun p hp => by
          rw [HLE.out, List.mem_singleton.1 hp]
          show xb.lost + e ≤ _; omega) (by rw [HLE.out]; omega)
        rw [HLE.out] at hp
        refine hp.mono ?_
        rintro o X6 ⟨rfl, hT6, _, hb6⟩
        have HW6 := Lib.hid (show LoW w (some ⟨b, off, none⟩) N Q ga go gt (pushAll xa l) (pushAll xb l) X6 from ⟨HB5.out.trans hb6, HQ5.out.below hb6, _, _, _, hT6.swap3⟩)
        clear hp hT6 hb6 HT5 HO5 HB5 HQ5 HSX
        go_wp2_with fail
        go_roundw
        case rel => exact ⟨k + 1, v + e, pushAll xa l, pushAll xb l, by omega, by omega, by omega, by go_num, by go_num, by omega, by omega, HW6.out⟩
        case measure => simp [intOf]; omega
      · have hr0' : (r == 0) = false := beq_eq_false_iff_ne.2 hr0
        by_cases hr1 : r = 1
        · subst hr1
          have HOKX := Lib.hid (show OkWt xa from HT.out.a.1.ok (1, xa) (by simp))
          have c2 := HBX.out.cell 2
          go_wp2_with fail
          refine (HT.out.take HB1.out.size 1 (by decide) nn (at_first xa xb)).mono ?_
          rintro e Y1 ⟨z1, rfl, hz1, hT1, _, hkp1, hb1⟩
          have HBX1 := Lib.hid (hkp1 _ _ _ (fun c => Nat.lt_irrefl _ (HFL.out.1 NB c)) HBX.out)
          have HB2 := Lib.hid (HB1.out.trans hb1)
          have HT1 := Lib.hid ((fun h => by rw [putS_first] at h; exact h.swap : T3 w.heap.size Y1 ga go gt (putS [(1, xa), (2, xb)] 1 (takeW xa nn)) [(1, xa)] [(1, xb)] 2 1 1 Fa Fo Ft → T3 w.heap.size Y1 go ga gt [(1, xa)] [(1, takeW xa nn), (2, xb)] [(1, xb)] 1 2 1 Fo Fa Ft) hT1)
          have HZ1 := Lib.hid hz1
          have HQ1b := Lib.hid (HQ1.out.below hb1)
          have c2 := HBX1.out.cell 2
          clear hz1 hT1 hkp1 hb1 HBX HB1 HT HQ1
          go_wp2_with fail
          refine (HT1.out.take HB2.out.size 1 (by decide) nn (at_one 1 _)).mono ?_
          rintro e Y2 ⟨z2, rfl, hz2, hT2, hit2, _, hb2⟩
          rw [putS_one] at hT2
          have HB3 := Lib.hid (HB2.out.trans hb2)
          have HSM := Lib.hid (same_any _ z1 z2 Y2 (hit2 _ _ HZ1.out) hz2 (ok_takeL HOKX.out (by omega) nn) (Nat.le_trans (few_takeL HOKX.out nn) (by omega)))
          have HW2 := Lib.hid (show LoW w (some ⟨b, off, none⟩) N Q ga go gt (takeW xa nn) xb Y2 from ⟨HB3.out, HQ1b.out.below hb2, _, _, _, T3.swap hT2⟩)
          clear hz2 hT2 hit2 hb2 HT1 HZ1 HB2 HQ1b HBX1
          go_wp2_with fail
          refine HSM.out.mono ?_
          rintro e Y3 ⟨rfl, hb3⟩
          have HW3 := Lib.hid (LoW.below HW2.out hb3)
          clear hb3 HSM HW2 HB3
          have hl1 := lost_take xa nn
          have hl2 := lost_take xb nn
          go_wp2_with fail
          go_roundw
          case rel => exact ⟨k + 1, v, (takeW xa nn), xb, by omega, by omega, by omega, by go_num, rfl, by omega, by omega, HW3.out⟩
          case measure => simp [intOf]; omega
        · have hr1' : (r == 1) = false := beq_eq_false_iff_ne.2 hr1
          by_cases hr2 : r = 2
          · subst hr2
            have HOKX := Lib.hid (show OkWt xb from HT.out.a.1.ok (2, xb) (by simp))
            have c2 := HBX.out.cell 2
            go_wp2_with fail
            refine (HT.out.take HB1.out.size 2 (by decide) nn (at_second xa xb)).mono ?_
            rintro e Y1 ⟨z1, rfl, hz1, hT1, _, hkp1, hb1⟩
            have HBX1 := Lib.hid (hkp1 _ _ _ (fun c => Nat.lt_irrefl _ (HFL.out.1 NB c)) HBX.out)
            have HB2 := Lib.hid (HB1.out.trans hb1)
            have HT1 := Lib.hid ((fun h => by rw [putS_second] at h; exact h.swap3 : T3 w.heap.size Y1 ga go gt (putS [(1, xa), (2, xb)] 2 (takeW xb nn)) [(1, xa)] [(1, xb)] 2 1 1 Fa Fo Ft → T3 w.heap.size Y1 gt go ga [(1, xb)] [(1, xa)] [(1, xa), (2, takeW xb nn)] 1 1 2 Ft Fo Fa) hT1)
            have HZ1 := Lib.hid hz1
            have HQ1b := Lib.hid (HQ1.out.below hb1)
            have c2 := HBX1.out.cell 2
            clear hz1 hT1 hkp1 hb1 HBX HB1 HT HQ1
            go_wp2_with fail
            refine (HT1.out.take HB2.out.size 1 (by decide) nn (at_one 1 _)).mono ?_
            rintro e Y2 ⟨z2, rfl, hz2, hT2, hit2, _, hb2⟩
            rw [putS_one] at hT2
            have HB3 := Lib.hid (HB2.out.trans hb2)
            have HSM := Lib.hid (same_any _ z1 z2 Y2 (hit2 _ _ HZ1.out) hz2 (ok_takeL HOKX.out (by omega) nn) (Nat.le_trans (few_takeL HOKX.out nn) (by omega)))
            have HW2 := Lib.hid (show LoW w (some ⟨b, off, none⟩) N Q ga go gt xa (takeW xb nn) Y2 from ⟨HB3.out, HQ1b.out.below hb2, _, _, _, T3.swap3 hT2⟩)
            clear hz2 hT2 hit2 hb2 HT1 HZ1 HB2 HQ1b HBX1
            go_wp2_with fail
            refine HSM.out.mono ?_
            rintro e Y3 ⟨rfl, hb3⟩
            have HW3 := Lib.hid (LoW.below HW2.out hb3)
            clear hb3 HSM HW2 HB3
            have hl1 := lost_take xa nn
            have hl2 := lost_take xb nn
            go_wp2_with fail
            go_roundw
            case rel => exact ⟨k + 1, v, xa, (takeW xb nn), by omega, by omega, by omega, by go_num, rfl, by omega, by omega, HW3.out⟩
            case measure => simp [intOf]; omega
          · have hr2' : (r == 2) = false := beq_eq_false_iff_ne.2 hr2
            have HW6 := Lib.hid (show LoW w (some ⟨b, off, none⟩) N Q ga go gt xa xb X from ⟨HB1.out, HQ1.out, _, _, _, HT.out⟩)
            clear HT HB1 HQ1 HBX
            go_wp2_with fail
            go_roundw
            case rel => exact ⟨k + 1, v, xa, xb, by omega, by omega, by omega, by go_num, rfl, by omega, by omega, HW6.out⟩
            case measure => simp [intOf]; omega
    · have HAL := Lib.hid (alive_ok wr)
      clear HQ
      have hk3 : ¬ (k : Int) < (N : Int) ∨ ¬ (k : Int) < 100 := by omega
      by_cases h1 : (k : Int) < (N : Int)
      · have h2 : ¬ (k : Int) < 100 := by omega
        have h2' : ¬ k < 100 := by omega
        clear hk3
        go_wp2_with fail
        refine HAL.out.mono ?_
        rintro e w2 ⟨rfl, hb2⟩
        have HW2 := Lib.hid (LoW.below HW.out hb2)
        have HB2 := Lib.hid (below_trans HB.out hb2)
        obtain ⟨Fa, Fo, Ft, hT⟩ := HW2.out.t3
        have C1 := Lib.hid (show Calls Try.prog 22 #[.pointer (some ⟨ga, 0, none⟩), .int .u64 (1 : Nat)] w2 fun e w' => e = .returned (.int .i64 (waitsN xa : Nat)) ∧ w2 = w' from waits_any hT.a.1 1 (okU_n 1 (by decide)))
        have C2 := Lib.hid (show Calls Try.prog 22 #[.pointer (some ⟨go, 0, none⟩), .int .u64 (1 : Nat)] w2 fun e w' => e = .returned (.int .i64 (waitsN xa : Nat)) ∧ w2 = w' from waits_any hT.o.1 1 (okU_n 1 (by decide)))
        have C3 := Lib.hid (show Calls Try.prog 22 #[.pointer (some ⟨ga, 0, none⟩), .int .u64 (2 : Nat)] w2 fun e w' => e = .returned (.int .i64 (waitsN xb : Nat)) ∧ w2 = w' from waits_any hT.a.1 2 (okU_n 2 (by decide)))
        have C4 := Lib.hid (show Calls Try.prog 22 #[.pointer (some ⟨gt, 0, none⟩), .int .u64 (1 : Nat)] w2 fun e w' => e = .returned (.int .i64 (waitsN xb : Nat)) ∧ w2 = w' from waits_any hT.t.1 1 (okU_n 1 (by decide)))
        generalize waitsN xa = ya at C1 C2
        generalize waitsN xb = yb at C3 C4
        clear hT hb2 HW HB HAL HW2
        go_wp2_with fail
        refine C1.out.mono ?_
        rintro e w3 ⟨rfl, rfl⟩
        go_wp2_with fail
        refine C2.out.mono ?_
        rintro e w3 ⟨rfl, rfl⟩
        go_wp2_with fail
        refine C3.out.mono ?_
        rintro e w3 ⟨rfl, rfl⟩
        go_wp2_with fail
        refine C4.out.mono ?_
        rintro e w3 ⟨rfl, rfl⟩
        go_wp2_with fail
        go_ret
        exact ⟨rfl, HB2.out⟩
      · clear hk3
        go_wp2_with fail
        refine HAL.out.mono ?_
        rintro e w2 ⟨rfl, hb2⟩
        have HW2 := Lib.hid (LoW.below HW.out hb2)
        have HB2 := Lib.hid (below_trans HB.out hb2)
        obtain ⟨Fa, Fo, Ft, hT⟩ := HW2.out.t3
        have C1 := Lib.hid (show Calls Try.prog 22 #[.pointer (some ⟨ga, 0, none⟩), .int .u64 (1 : Nat)] w2 fun e w' => e = .returned (.int .i64 (waitsN xa : Nat)) ∧ w2 = w' from waits_any hT.a.1 1 (okU_n 1 (by decide)))
        have C2 := Lib.hid (show Calls Try.prog 22 #[.pointer (some ⟨go, 0, none⟩), .int .u64 (1 : Nat)] w2 fun e w' => e = .returned (.int .i64 (waitsN xa : Nat)) ∧ w2 = w' from waits_any hT.o.1 1 (okU_n 1 (by decide)))
        have C3 := Lib.hid (show Calls Try.prog 22 #[.pointer (some ⟨ga, 0, none⟩), .int .u64 (2 : Nat)] w2 fun e w' => e = .returned (.int .i64 (waitsN xb : Nat)) ∧ w2 = w' from waits_any hT.a.1 2 (okU_n 2 (by decide)))
        have C4 := Lib.hid (show Calls Try.prog 22 #[.pointer (some ⟨gt, 0, none⟩), .int .u64 (1 : Nat)] w2 fun e w' => e = .returned (.int .i64 (waitsN xb : Nat)) ∧ w2 = w' from waits_any hT.t.1 1 (okU_n 1 (by decide)))
        generalize waitsN xa = ya at C1 C2
        generalize waitsN xb = yb at C3 C4
        clear hT hb2 HW HB HAL HW2
        go_wp2_with fail
        refine C1.out.mono ?_
        rintro e w3 ⟨rfl, rfl⟩
        go_wp2_with fail
        refine C2.out.mono ?_
        rintro e w3 ⟨rfl, rfl⟩
        go_wp2_with fail
        refine C3.out.mono ?_
        rintro e w3 ⟨rfl, rfl⟩
        go_wp2_with fail
        refine C4.out.mono ?_
        rintro e w3 ⟨rfl, rfl⟩
        go_wp2_with fail
        go_ret
        exact ⟨rfl, HB2.out⟩
theorem walk (A : Option Addr) (N c : Nat) (w : World) (h : Shp.Good w (.list (.obj shOp)) [.slice A N c]) :
    Calls Try.prog 6 #[.slice A N c] w fun e w' => e = .returned (.bool true) ∧ Below w.heap.size w w' := by
  obtain ⟨hN, Q, hQ⟩ := open_ops h
  exact walk0 A N c Q w hQ hN
end FeedApart
end Go.Proofs.Ytlbfjdpcnnplnaa
