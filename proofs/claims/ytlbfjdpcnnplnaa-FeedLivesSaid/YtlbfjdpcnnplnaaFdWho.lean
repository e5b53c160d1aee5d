/- Package feed: Watchers. -/
import Derived.Test.YtlbfjdpcnnplnaaFdAll
import Derived.Test.YtlbfjdpcnnplnaaFdSort2
namespace Go.Proofs.Ytlbfjdpcnnplnaa
namespace Fee
open Go.ChangeShapes Go.WideShapes Go.ChangeAt Go.RowKit Go.Maps
open Num Mem Words Chacha Aead Poly Quiet RowV RowS

theorem nodup_len : ∀ {l m : List Nat}, l.Nodup → (∀ x ∈ l, x ∈ m) → l.length ≤ m.length
  | [], _, _, _ => Nat.zero_le _
  | a :: l, m, h, hs => by
    have ha := hs a List.mem_cons_self
    have h1 := nodup_len (m := m.erase a) (List.nodup_cons.1 h).2 (fun x hx => (List.mem_erase_of_ne (fun e : x = a => (List.nodup_cons.1 h).1 (by rw [← e]; exact hx))).2 (hs x (List.mem_cons_of_mem _ hx)))
    rw [List.length_erase_of_mem ha] at h1
    have h2 := List.length_pos_of_mem ha
    rw [List.length_cons]
    omega
theorem own_whole {w : World} {B n c g : Nat} {A : Option Addr} {e : TypeId} {size : Nat} {xs : List Value} (h : w.ownsRow B e size (.slice A n c) n xs) (hA : (Value.slice A n c).ownBlock = some g) : ∃ cs, Whole w g e cs := by
  rcases h.2 with ⟨h0, _⟩ | ⟨g', cap, cur, e1, _, hh, _, _, _, ht⟩
  · rw [h0] at hA
    cases hA
  · rw [e1] at hA
    injection hA with hA
    exact ⟨cur, hA ▸ hh⟩
structure WhoW (w : World) (b : Nat) (S : St) (last r : Nat) (D : DataW Unit) (left : Lit → Bool) (cnt : Nat) (A : Option Addr) (c : Nat) (l : List Nat) (X : World) : Prop where
  own : X.ownsRow w.heap.size 23 1 (.slice A l.length c) l.length (us l)
  bel : Below w.heap.size w X
  rg : X.ranges Try.prog 23 ptrR b r last D left cnt
  nd : l.Nodup
  mem : ∀ id, id ∈ l ↔ id ∈ ids S ∧ left (keyO id) = false
  nil : ∃ g, A = some ⟨g, 0, none⟩
  has : ∀ o, left (keyO o) = true → o ∈ ids S
theorem WhoW.next {w X Y Z : World} {b last r c c' cnt cnt1 : Nat} {S : St} {D : DataW Unit} {left : Lit → Bool} {A A' : Option Addr} {l : List Nat} (h : WhoW w b S last r D left cnt A c l X) (hr : w.heap.size ≤ r) (hg : X.grownBy Y (some r)) {id : Nat} (hid : left (keyO id) = true)
    (rg : Y.ranges Try.prog 23 ptrR b r last D (fun z => left z && !z.sameKey (keyO id)) cnt1) (own : Z.ownsRow w.heap.size 23 1 (.slice A' (l.length + 1) c') (l.length + 1) (us l ++ [.int .u64 (id : Nat)])) (hz : (Y.alloc (.cells #[.int .u64 (id : Nat)] 23)).grownBy Z (Value.slice A l.length c).ownBlock) :
    WhoW w b S last r D (fun z => left z && !z.sameKey (keyO id)) cnt1 A' c' (l ++ [id]) Z := by
  obtain ⟨g, rfl⟩ := h.nil
  obtain ⟨cs, hw⟩ := own_whole h.own rfl
  have hne := rg_ne h.rg hw
  have hgl := (World.ownsRow.lt h.own g rfl).1
  have hbY : Below w.heap.size w Y := h.bel.grown hg h.bel.size (fun k hk => by injection hk with hk; rw [← hk]; exact hr)
  have hbA := Below.alloc hbY hbY.size (.cells #[.int .u64 (id : Nat)] 23)
  have hl : id ∉ l := fun c => by have := ((h.mem id).1 c).2; rw [hid] at this; cases this
  refine ⟨?_, hbA.grown hz hbA.size (fun k hk => by injection hk with hk; rw [← hk]; exact hgl), (rg.alloc _).kept hz (fun e => hne.2 (Option.some.inj e).symm) (fun e => hne.1 (Option.some.inj e).symm), ?_, fun y => ?_, ?_, fun o ho => h.has o (Bool.and_eq_true_iff.1 ho).1⟩
  · rw [List.length_append, List.length_singleton]
    have e : us (l ++ [id]) = us l ++ [.int .u64 (id : Nat)] := by unfold us; rw [List.map_append]; rfl
    rw [e]
    exact own
  · exact List.nodup_append.2 ⟨h.nd, by simp, fun x hx y hy e => by rw [List.mem_singleton] at hy; exact hl (hy ▸ e ▸ hx)⟩
  · rw [List.mem_append, List.mem_singleton, h.mem y]
    by_cases c : y = id
    · subst c
      have hs : (keyO y).sameKey (keyO y) = true := by simp [keyO, Lit.sameKey]
      rw [hs]
      simp [h.has y hid]
    · rw [sameKey_ne (keyO_ne c)]
      simp [c]
  · obtain ⟨g', e, _⟩ := own_cells own (by omega)
    exact ⟨g', e⟩
theorem us_one (o : Nat) : Try.prog.builtSlice 23 1 [(0, .int .u64 (o : Nat))] = some #[.int .u64 (o : Nat)] := by kernel_rfl
theorem info_u64 : (Try.prog.info? 23).map (fun i => (i.zero, i.size, i.bytes)) = some (some (.int .u64 0), 1, 8) := by kernel_rfl
theorem info_u64i : ∃ i, Try.prog.info? 23 = some i ∧ i.zero = some (.int .u64 0) ∧ i.size = 1 ∧ i.bytes = 8 := info_parts info_u64
def WhoE (w w' : World) (S : St) (e : Ending) : Prop := ∃ A c, e = .returned (.slice A S.length c) ∧ w'.ownsRow w.heap.size 23 1 (.slice A S.length c) S.length (us (ids S)) ∧ Below w.heap.size w w'
set_option maxRecDepth 100000 in
set_option maxHeartbeats 2000000 in
theorem who_any {w : World} {F : Nat → Prop} {g last : Nat} {S : St} (h : FW w F g S last) (hS : S.length ≤ 8) :
    Calls Try.prog 21 #[.pointer (some ⟨g, 0, none⟩)] w fun e w' => WhoE w w' S e := by
  obtain ⟨b, D, m, h1, h2, h3, h4⟩ := h
  have HN := Lib.hid (none_some g b _ w h1.obj)
  have c0 : w.cell? ⟨g, 0, none⟩ = some (.map (some b)) := h1.obj.cell 0
  have hl := h4.len Try.underlying61
  rw [h3] at hl
  have H := Lib.hid (show FM w F g b S last m ∧ PAg D m ∧ Maps.size D = S.length ∧ w.ownsMap Try.prog 23 ptrR b last D from ⟨h1, h2, h3, h4⟩)
  obtain ⟨n, hn⟩ : ∃ n, S.length = n := ⟨_, rfl⟩
  have HNL := Lib.hid hn
  rw [hn] at hl hS
  have HL := Lib.hid hl
  clear h1 h2 h3 h4 hn hl
  obtain ⟨i0, hi, hz0, hz1, hz2⟩ := info_u64i
  obtain ⟨w1, hm, hown, hgr⟩ := run_make_own w w.heap.size 54 23 i0 (.int .u64 0) 1 Try.underlying54 hi hz0 hz1 .i64 .i64 n (by rw [hz2]; omega) (by unfold maxLen; omega) (Nat.le_refl _)
  have hb1 : Below w.heap.size w w1 := ⟨hgr.os, hgr.tape, hgr.output, hgr.size, fun i hi => hgr.block i hi (by simp)⟩
  have H1 := Lib.hid (show FM w1 F g b S last m ∧ w1.ownsMap Try.prog 23 ptrR b last D ∧ w1.ownsRow w.heap.size 23 1 (.slice (some ⟨w.heap.size, 0, none⟩) 0 n) 0 [] ∧ Below w.heap.size w w1 from ⟨H.out.1.below hb1, H.out.2.2.2.kept hgr (by simp), hown, hb1⟩)
  have c1 : w1.cell? ⟨g, 0, none⟩ = some (.map (some b)) := H1.out.1.obj.cell 0
  clear hown hgr hb1
  go_enter Try.func21, Try.ntmps21
  go_wp2_with fail
  refine HN.out.mono ?_
  rintro e w1 ⟨rfl, rfl⟩
  have hl := HL.out
  go_upto_region 3 with (at_builtin; refine Lib.wpList_len_run _ rfl _ _ _ rfl _ rfl _ _ (hl _) ?_)
  go_wp2_with (first | (at_range; refine wpList_range_own _ rfl _ 61 rfl 23 72 keyedU Try.underlying61 _ b last D rfl H1.out.2.1 ?_; intro w0 hrg0 hg0 hs0))
  go_frame
  have H0 := Lib.hid (show WhoW w b S last w1.heap.size D (Maps.has D) (Maps.size D) (some ⟨w.heap.size, 0, none⟩) n [] w0 from by
    have hb0 : Below w1.heap.size w1 w0 := ⟨hg0.os, hg0.tape, hg0.output, hg0.size, fun i hi => hg0.block i hi (by simp)⟩
    have hlt : w.heap.size ≤ w1.heap.size := H1.out.2.2.2.size
    refine ⟨own_keep H1.out.2.2.1 hb0, H1.out.2.2.2.trans (hb0.mono hlt), hrg0, List.nodup_nil, fun id => ⟨fun c => absurd c (List.not_mem_nil), fun ⟨h1, h2⟩ => ?_⟩, ⟨_, rfl⟩, fun o ho => ?_⟩
    rotate_left
    · rw [H.out.2.1.hs] at ho
      obtain ⟨r, e⟩ := Option.isSome_iff_exists.1 ho
      exact H.out.1.dom o r e
    obtain ⟨x, hx⟩ := at_some_of h1
    obtain ⟨r, e, _⟩ := H.out.1.row id x hx
    rw [H.out.2.1.hs, e] at h2
    cases h2)
  obtain ⟨r, hr⟩ : ∃ r, w1.heap.size = r := ⟨_, rfl⟩
  rw [hr] at H0 ⊢
  have HR := Lib.hid (show w.heap.size ≤ r from hr ▸ H1.out.2.2.2.size)
  clear hrg0 hg0 hs0 c0 c1 hr hm hl HL HN H1
  go_loopw [3, 4] (fun out _ wr => ∃ left cnt A c l, out = .slice A l.length c ∧ WhoW w b S last r D left cnt A c l wr) (fun _ _ wr => wr.rangeLeft b r)
  case atStart => exact ⟨_, _, _, _, [], rfl, H0.out⟩
  case round =>
    obtain ⟨left, cnt, A, c, l, rfl, hW⟩ := hrel
    have HW := Lib.hid hW
    clear hW H0
    go_wp2_with (at_next; refine wpList_next_ranges _ rfl _ rfl 23 keyedU ptrR (fun x : Int => .int .u64 x) ptrV (fun key kl h => by obtain ⟨x, e, _⟩ := Maps.keyOf_int_inv Try.underlying23 h; exact ⟨x, e⟩) (fun v y h => by obtain ⟨q, e, _⟩ := ptrR_inv h; exact ⟨q, e⟩) b r last D left cnt rfl HW.out.rg ?_ ?_)
    · intro _ hl0
      have hp : l.Perm (ids S) := (List.perm_ext_iff_of_nodup HW.out.nd H.out.1.nd).2 fun id => by rw [HW.out.mem id, hl0]; simp
      obtain ⟨g2, rfl⟩ := HW.out.nil
      have hlen : l.length = n := by rw [hp.length_eq, show (ids S).length = S.length from List.length_map _, HNL.out]
      rw [hlen]
      have hown := HW.out.own
      rw [hlen] at hown
      have HS := Lib.hid (sort_any w.heap.size g2 c n l wr hown hlen hS)
      have HP := Lib.hid hp
      have HB := Lib.hid HW.out.bel
      have HG := Lib.hid (show w.heap.size ≤ g2 from (World.ownsRow.lt hown g2 rfl).1)
      clear hl0 hp hown hlen HW
      go_wp2_with fail
      refine HS.out.mono ?_
      rintro e w3 ⟨rfl, zs, hzp, hza, hro⟩
      have HE := Lib.hid (show WhoE w w3 S (.returned (.slice (some ⟨g2, 0, none⟩) n c)) from by
        have ez : zs = ids S := asc_uniq (hzp.trans HP.out) hza H.out.1.srt
        refine ⟨some ⟨g2, 0, none⟩, c, by rw [HNL.out], by rw [HNL.out, ← ez]; exact hro.own, HB.out.grown hro.gr HB.out.size (fun k hk => by injection hk with hk; rw [← hk]; exact HG.out)⟩)
      clear hzp hza hro HS HP HB HG
      go_wp2_with fail
      go_ret
      exact HE.out
    · intro x0 q kl yd yp wr1 cnt1 hkey hlk hy hat hrg1 hlt hg1 hs1 hen
      obtain ⟨x', ex, rfl, hwx⟩ := Maps.keyOf_int_inv Try.underlying23 hkey
      injection ex with _ ex
      subst ex
      obtain ⟨id, rfl, hid⟩ := nat_u64 hwx
      have HG := Lib.hid (show wr.grownBy wr1 (some r) from hg1)
      have HK := Lib.hid (show left (keyO id) = true from hlk)
      have HR1 := Lib.hid (show wr1.ranges Try.prog 23 ptrR b r last D (fun z => left z && !z.sameKey (keyO id)) cnt1 from hrg1)
      have HLT := Lib.hid hlt
      have HB := Lib.hid (us_one id)
      have HOB := Lib.hid (show wr1.ownsRow w.heap.size 23 1 (.slice A l.length c) l.length (us l) ∧ w.heap.size ≤ wr1.heap.size ∧ l.length ≤ 8 from by
        obtain ⟨g2, e2⟩ := HW.out.nil
        subst e2
        obtain ⟨cs, hw⟩ := own_whole HW.out.own rfl
        refine ⟨World.ownsRow.kept HW.out.own hg1 ?_, Nat.le_trans HW.out.bel.size hg1.size, ?_⟩
        · exact .inr fun e => (rg_ne HW.out.rg hw).1 (by injection e with e)
        · have := nodup_len HW.out.nd (fun y hy => ((HW.out.mem y).1 hy).1)
          rw [show (ids S).length = S.length from List.length_map _, HNL.out] at this
          omega)
      have hl8 := HOB.out.2.2
      clear hkey hlk hy hat hrg1 hlt hg1 hs1
      go_upto_region 7 with fail
      go_wp2_with (first | (refine wpList_rowOne rfl 54 23 (.tmp 23) rfl (.int .u64 (id : Nat)) rfl Try.underlying54 _ HB.out ?_) | (at_builtin; refine wpList_append_own _ rfl _ _ 54 rfl w.heap.size 23 i0 (.int .u64 0) 1 8 Try.underlying54 hi hz0 hz1 hz2 rfl (by decide) (.slice A l.length c) l.length (us l) rfl (World.ownsRow.alloc HOB.out.1 _) ⟨wr1.heap.size, 0, none⟩ 1 1 [.int .u64 (id : Nat)] rfl rfl (news_new _ _ _) (by intro u hu; rw [List.mem_singleton] at hu; subst hu; rfl) (by unfold maxLen; omega) (by omega) (by have := HOB.out.2.1; simp; omega) ?_; intro v' w' g1 g2 _))
      rcases g1.2 with ⟨_, h0⟩ | ⟨g3, cap, cur, rfl, r3⟩
      · omega
      have HE := Lib.hid (HW.out.next HR.out HG.out HK.out HR1.out g1 g2)
      have HLE := Lib.hid (HW.out.rg.left_eq)
      clear g1 g2 r3 HW
      go_wp2_with fail
      go_roundw
      case rel => exact ⟨_, _, _, _, l ++ [id], by simp, HE.out⟩
      case measure => rw [HE.out.rg.left_eq, HLE.out]; exact HLT.out
end Fee
end Go.Proofs.Ytlbfjdpcnnplnaa
