/- The document's own feed: Leave; Take. -/
import Derived.Test.YtlbfjdpcnnplnaaRfAll
namespace Go.Proofs.Ytlbfjdpcnnplnaa
namespace Fee
open Go.ChangeShapes Go.WideShapes Go.ChangeAt Go.RowKit Go.Maps
open Num Mem Words Chacha Aead Poly Quiet RowV RowS

theorem addr_add (b i j : Nat) : (⟨b, i, none⟩ : Addr).add j = ⟨b, i + j, none⟩ := by unfold Addr.add; split <;> simp_all
theorem RW.src {w : World} {B : Nat} {G : Nat → Prop} {x last c g : Nat} {R : List RR} (h : RW w B G x R (some ⟨g, 0, none⟩) c last) (hn : 0 < R.length) (i : Nat) (S : List RR) (hS : ∀ j u, (flatR S)[j]? = some u → (flatR R)[i + j]? = some u) : ∀ j u, (flatR S)[j]? = some u → w.cell? ((⟨g, i, none⟩ : Addr).add j) = some u := by
  intro j u hu
  obtain ⟨g', e, _, _, hc⟩ := own_cells h.row hn
  injection e with e
  injection e with e
  subst e
  rw [addr_add]
  exact (hc _ _ (hS j u hu)).1
theorem leave_at : ∀ {R : List RR} {i : Nat} {r : RR}, R[i]? = some r → (ids (stR R)).Nodup → leaveS (stR R) r.id = stR (R.take i ++ R.drop (i + 1))
  | [], i, r, h, _ => by simp at h
  | y :: R, 0, r, h, hn => by
    simp only [List.getElem?_cons_zero, Option.some.injEq] at h
    subst h
    rw [ids_stR, List.map_cons, List.nodup_cons] at hn
    show leaveS ((y.id, y.x) :: stR R) y.id = stR R
    unfold leaveS
    rw [List.filter_cons, if_neg (by simp)]
    have := leave_none (S := stR R) (id := y.id) (by rw [ids_stR]; exact hn.1)
    exact this
  | y :: R, i + 1, r, h, hn => by
    rw [List.getElem?_cons_succ] at h
    rw [ids_stR, List.map_cons, List.nodup_cons] at hn
    have ih := leave_at h (by rw [ids_stR]; exact hn.2)
    have hne : y.id ≠ r.id := fun e => hn.1 (e ▸ List.mem_map_of_mem (List.mem_of_getElem? h))
    show leaveS ((y.id, y.x) :: stR R) r.id = stR (y :: (R.take i ++ R.drop (i + 1)))
    unfold leaveS at ih ⊢
    rw [List.filter_cons, if_pos (by simp [hne]), ih]
    rfl
set_option maxRecDepth 100000 in
theorem rleave_any {w : World} {B : Nat} {G : Nat → Prop} {x last : Nat} {S : St} (h : RF w B G x S last) (hS : S.length ≤ 100) (hnd : (ids S).Nodup) (id : Nat) : Calls Try.prog 12 #[.pointer (some ⟨x, 0, none⟩), .int .u64 (id : Nat)] w fun e w' => e = .returned (.bool (decide (id ∈ ids S))) ∧ RFk w w' B G x (leaveS S id) last := by
  obtain ⟨R, A, c, h1, rfl, hG⟩ := h
  rw [stR_length] at hS
  have HF := Lib.hid (rfind_any h1 (by omega) id)
  have H := Lib.hid h1
  have HG := Lib.hid hG
  have HND := Lib.hid hnd
  have c0 : w.cell? ⟨x, 0, none⟩ = some (.slice A R.length c) := h1.obj.cell 0
  have f0 : w.frozen? ⟨x, 0, none⟩ = false := h1.obj.free 0
  obtain ⟨n, hn⟩ : ∃ n, R.length = n := ⟨_, rfl⟩
  rw [hn] at c0 hS
  have HN := Lib.hid hn
  obtain ⟨D, hD⟩ : ∃ D, decide (id ∈ ids (stR R)) = D := ⟨_, rfl⟩
  rw [hD]
  have HD := Lib.hid hD
  clear h1 hG hnd hn hD
  go_enter Try.func12, Try.ntmps12
  go_wp2_with fail
  refine HF.out.mono ?_
  rintro e w1 ⟨⟨i, r, hr, rfl, hno, rfl⟩ | ⟨hno, rfl⟩, rfl⟩
  · obtain rfl : D = true := by
      rw [← HD.out]
      exact decide_eq_true (by rw [ids_stR]; exact List.mem_map_of_mem (List.mem_of_getElem? hr))
    have hi : i < n := by rw [← HN.out]; exact (List.getElem?_eq_some_iff.1 hr).1
    obtain ⟨g, rfl, _, _, _⟩ := H.out.cell hr
    have HR := Lib.hid hr
    have hcap : n ≤ c := by
      rcases H.out.row.2 with ⟨e, _⟩ | ⟨g', cap, cur, e, _, _, hle, _⟩
      · cases e
      · injection e with _ _ e
        rw [HN.out] at hle
        omega
    have hi' : (i : Int) < (n : Int) := by omega
    have hi2 : (i : Int) ≤ (c : Int) := by omega
    have hi3 : (i : Int) + 1 ≤ (n : Int) := by omega
    have hw1 : IntKind.i64.wrap ((i : Int) + 1) = (i : Int) + 1 := by rw [IntKind.wrap_i64]; omega
    have hi4 : (0 : Int) ≤ (i : Int) + 1 := by omega
    have hpos : 0 < R.length := by rw [HN.out]; omega
    clear hr hno HF HD
    go_upto_region 5 with fail
    apply wp_region_lit
    refine Ops.wpList_value_if (by rfl) _ (by go_simp; try with_reducible rfl) ?_
    try simp only [Act.put, List.setIfInBounds_toArray, List.set_cons_zero, List.set_cons_succ]
    refine Ops.wpList_value_if (by rfl) _ (by go_simp; try with_reducible rfl) ?_
    try simp only [Act.put, List.setIfInBounds_toArray, List.set_cons_zero, List.set_cons_succ]
    refine Ops.wpList_value_if (by rfl) _ (by go_simp; try with_reducible rfl) ?_
    try simp only [Act.put, List.setIfInBounds_toArray, List.set_cons_zero, List.set_cons_succ]
    refine Ops.wpList_value_if (by rfl) _ (by go_simp; try with_reducible rfl) ?_
    try simp only [Act.put, List.setIfInBounds_toArray, List.set_cons_zero, List.set_cons_succ]
    refine Ops.wpList_value_if (by rfl) _ (by go_simp; try with_reducible rfl) ?_
    try simp only [Act.put, List.setIfInBounds_toArray, List.set_cons_zero, List.set_cons_succ]
    refine Ops.wpList_value_if (by rfl) _ (by go_simp; try with_reducible rfl) ?_
    try simp only [Act.put, List.setIfInBounds_toArray, List.set_cons_zero, List.set_cons_succ]
    refine Ops.wpList_value_if (by rfl) _ (by go_simp; try with_reducible rfl) ?_
    try simp only [Act.put, List.setIfInBounds_toArray, List.set_cons_zero, List.set_cons_succ]
    refine wpList_catG rfl (flatR (R.take i)) 3 i (.tmp 12) (.tmp 18) 27 58 _ 40 Try.underlying27 info_row rfl (by decide) rfl rfl ⟨g, 0, none⟩ c rfl (show w.ownsRow B 58 3 (.slice none 0 0) 0 [] from ⟨rfl, .inl ⟨rfl, rfl⟩⟩) (Nat.le_trans H.out.bx (Nat.le_of_lt H.out.obj.lt)) (by rw [flatR_length, List.length_take, HN.out, Nat.min_eq_left (by omega)]) (H.out.src hpos 0 _ (fun j u hu => by rw [Nat.zero_add]; rw [flatR_take] at hu; rw [List.getElem?_take] at hu; split at hu; exact hu; cases hu)) (flatR_each _) (by omega) (by omega) ?_
    intro A1 c1 Y hown hgr hat
    have hb1 : Below w.heap.size w Y := ⟨hgr.os, hgr.tape, hgr.output, hgr.size, fun k hk => hgr.block k hk (by simp [ownA, Value.ownBlock])⟩
    have HRY := Lib.hid (H.out.below hb1)
    have HO1 := Lib.hid (show Y.ownsRow B 58 3 (.slice A1 i c1) i (flatR (R.take i)) ∧ (ownA A1 = none ∨ ownA A1 = some w.heap.size) from ⟨by rw [Nat.zero_add, List.nil_append] at hown; exact hown, hat⟩)
    have HB1 := Lib.hid hb1
    have c0 : Y.cell? ⟨x, 0, none⟩ = some (.slice (some ⟨g, 0, none⟩) n c) := by rw [← HN.out]; exact HRY.out.obj.cell 0
    have f0 : Y.frozen? ⟨x, 0, none⟩ = false := HRY.out.obj.free 0
    clear hown hgr hat hb1
    rw [Nat.zero_add]
    try simp only [Act.put, List.setIfInBounds_toArray, List.set_cons_zero, List.set_cons_succ]
    go_upto_region 6 with fail
    apply wp_region_lit
    refine Ops.wpList_value_if (by rfl) _ (by go_simp; try with_reducible rfl) ?_
    try simp only [Act.put, List.setIfInBounds_toArray, List.set_cons_zero, List.set_cons_succ]
    refine Ops.wpList_value_if (by rfl) _ (by go_simp; try with_reducible rfl) ?_
    try simp only [Act.put, List.setIfInBounds_toArray, List.set_cons_zero, List.set_cons_succ]
    refine Ops.wpList_value_if (by rfl) _ (by go_simp; try with_reducible rfl) ?_
    try simp only [Act.put, List.setIfInBounds_toArray, List.set_cons_zero, List.set_cons_succ]
    refine Ops.wpList_value_if (by rfl) _ (by go_simp; try with_reducible rfl) ?_
    try simp only [Act.put, List.setIfInBounds_toArray, List.set_cons_zero, List.set_cons_succ]
    refine Ops.wpList_value_if (by rfl) _ (by go_simp; try with_reducible rfl) ?_
    try simp only [Act.put, List.setIfInBounds_toArray, List.set_cons_zero, List.set_cons_succ]
    refine Ops.wpList_value_if (by rfl) _ (by go_simp; try with_reducible rfl) ?_
    try simp only [Act.put, List.setIfInBounds_toArray, List.set_cons_zero, List.set_cons_succ]
    refine Ops.wpList_value_if (by rfl) _ (by go_simp; try with_reducible rfl) ?_
    try simp only [Act.put, List.setIfInBounds_toArray, List.set_cons_zero, List.set_cons_succ]
    refine Ops.wpList_value_if (by rfl) _ (by go_simp; try with_reducible rfl) ?_
    try simp only [Act.put, List.setIfInBounds_toArray, List.set_cons_zero, List.set_cons_succ]
    refine Ops.wpList_value_if (by rfl) _ (by go_simp; try with_reducible rfl) ?_
    try simp only [Act.put, List.setIfInBounds_toArray, List.set_cons_zero, List.set_cons_succ]
    obtain ⟨ad, had, hsrc⟩ : ∃ ad : Addr, (if c = i + 1 then some (⟨g, 0, none⟩ : Addr) else some ⟨g, (i + 1) * 3, none⟩) = some ad ∧ ∀ j u, (flatR (R.drop (i + 1)))[j]? = some u → Y.cell? (ad.add j) = some u := by
      by_cases hc : c = i + 1
      · refine ⟨_, if_pos hc, fun j u hu => ?_⟩
        rw [List.drop_of_length_le (by rw [HN.out]; omega)] at hu
        simp [flatR] at hu
      · refine ⟨_, if_neg hc, HRY.out.src hpos _ _ fun j u hu => ?_⟩
        rw [flatR_drop, List.getElem?_drop] at hu
        exact hu
    rw [had]
    have HSRC := Lib.hid hsrc
    clear had hsrc
    refine wpList_catG rfl (flatR (R.drop (i + 1))) 3 (n - (i + 1)) (.tmp 21) (.tmp 28) 27 58 _ 40 Try.underlying27 info_row rfl (by decide) rfl rfl ad (c - (i + 1)) rfl HO1.out.1 (Nat.le_trans HRY.out.bx (Nat.le_of_lt HRY.out.obj.lt)) (by rw [flatR_length, List.length_drop, HN.out]) HSRC.out (flatR_each _) (by omega) (by omega) ?_
    intro A2 c2 Z hown hgr hat
    have hlen : (R.take i ++ R.drop (i + 1)).length = i + (n - (i + 1)) := by rw [List.length_append, List.length_take, List.length_drop, HN.out]; omega
    have hne1 : ∀ j, ownA A1 = some j → w.heap.size ≤ j := fun j hj => by
      rcases HO1.out.2 with e | e
      · rw [hj] at e; cases e
      · rw [hj] at e; injection e with e; omega
    have hYZ : ∀ j, j < Y.heap.size → ownA A1 ≠ some j → Z.heap[j]? = Y.heap[j]? := fun j hj hne => hgr.block j hj (fun e => hne e.symm)
    have hwZ : ∀ j t cs, Whole w j t cs → Whole Z j t cs := fun j t cs hw => (hYZ j (Nat.lt_of_lt_of_le hw.lt HB1.out.size) (fun e => by have := hne1 j e; have := hw.lt; omega)).trans (hw.below HB1.out hw.lt)
    have hxZ : Whole Z x 29 #[.slice (some ⟨g, 0, none⟩) n c, .int .u64 (last : Nat)] := by
      have := hwZ _ _ _ H.out.obj
      rw [HN.out] at this
      exact this
    have c0 : Z.cell? ⟨x, 0, none⟩ = some (.slice (some ⟨g, 0, none⟩) n c) := hxZ.cell 0
    have f0 : Z.frozen? ⟨x, 0, none⟩ = false := hxZ.free 0
    have HE := Lib.hid (show RFk w (Z.setCell ⟨x, 0, none⟩ (.slice A2 (i + (n - (i + 1))) c2)) B G x (leaveS (stR R) r.id) last from by
      have hg2 := grown_cell1 Z x 0 (.slice A2 (i + (n - (i + 1))) c2)
      have hx2 := hxZ.put 0 (.slice A2 (i + (n - (i + 1))) c2)
      have hwQ : ∀ j t cs, Whole w j t cs → j ≠ x → Whole (Z.setCell ⟨x, 0, none⟩ (.slice A2 (i + (n - (i + 1))) c2)) j t cs := fun j t cs hw ne => (hwZ _ _ _ hw).far ne _
      have hA2 : ∀ j, ownA A2 = some j → w.heap.size ≤ j := fun j hj => by
        rcases hat with e | e
        · exact hne1 j (e ▸ hj)
        · rw [hj] at e
          injection e with e
          have := HB1.out.size
          omega
      have hsub : (R.take i ++ R.drop (i + 1)).Sublist R := by
        have : (R.take i ++ R.drop (i + 1)).Sublist (R.take i ++ R.drop i) := (List.Sublist.refl _).append (by rw [← List.drop_drop]; exact List.drop_sublist _ _)
        rwa [List.take_append_drop] at this
      have hsz : Z.heap.size ≤ (Z.setCell ⟨x, 0, none⟩ (.slice A2 (i + (n - (i + 1))) c2)).heap.size := by simp
      refine ⟨fun j => (G j ∨ w.heap.size ≤ j) ∧ j < (Z.setCell ⟨x, 0, none⟩ (.slice A2 (i + (n - (i + 1))) c2)).heap.size, ⟨R.take i ++ R.drop (i + 1), A2, c2, ⟨?_, ?_, fun s hs => ?_, H.out.apart.sublist hsub, ⟨.inl H.out.gx, hx2.lt⟩, fun j hj => ⟨.inr (hA2 j hj), ?_⟩, fun s hs j hj => ⟨.inl (H.out.gi s (hsub.subset hs) j hj), ?_⟩, H.out.bx⟩, (leave_at HR.out HND.out).symm, fun j hj => ⟨?_, hj.2⟩⟩, fun j hj h2 => ?_, ?_⟩
      · rw [hlen]
        exact hx2
      · rw [hlen, flatR_append]
        exact own_keep2 hown fun j cs _ hw => hw.far (fun e => by subst e; exact absurd (whole_type hw hxZ) (by decide)) _
      · exact own_keep2 (H.out.its s (hsub.subset hs)) fun j cs e hw => hwQ _ _ _ hw ((H.out.row_ne (hsub.subset hs) (by rw [← own_b s.A s.x.L.length s.c]; exact e)).2)
      · obtain ⟨cs, hw⟩ := own_type hown (j := j) (by rw [own_b]; exact hj)
        exact Nat.lt_of_lt_of_le hw.lt hsz
      · obtain ⟨cs, hw⟩ := own_type (H.out.its s (hsub.subset hs)) (j := j) (by rw [own_b]; exact hj)
        exact Nat.lt_of_lt_of_le (hwZ _ _ _ hw).lt hsz
      · rcases hj.1 with h1 | h1
        · exact (HG.out j h1).1
        · exact Nat.le_trans H.out.bx (Nat.le_trans (Nat.le_of_lt H.out.obj.lt) h1)
      · rcases h2.1 with h1 | h1
        · exact h1
        · omega
      · refine ⟨hg2.os.trans (hgr.os.trans HB1.out.os), hg2.tape.trans (hgr.tape.trans HB1.out.tape), hg2.output.trans (hgr.output.trans HB1.out.output), Nat.le_trans HB1.out.size (Nat.le_trans hgr.size hg2.size), fun j hj hn2 => ?_, fun j cs hw => hwQ _ _ _ hw (fun e => by subst e; exact absurd (whole_type hw H.out.obj) (by decide))⟩
        have hjx : j ≠ x := fun e => hn2 (e ▸ H.out.gx)
        exact (hg2.block j (Nat.lt_of_lt_of_le hj (Nat.le_trans HB1.out.size hgr.size)) (fun e => hjx (by injection e with e))).trans ((hYZ j (Nat.lt_of_lt_of_le hj HB1.out.size) (fun e => by have := hne1 j e; omega)).trans (HB1.out.block j hj)))
    clear hown hgr hat hlen hne1 hYZ hwZ hxZ HO1 HSRC HRY HB1
    try simp only [Act.put, List.setIfInBounds_toArray, List.set_cons_zero, List.set_cons_succ]
    go_wp2_with fail
    go_ret
    exact ⟨rfl, HE.out⟩
  · obtain rfl : D = false := by
      rw [← HD.out]
      exact decide_eq_false (fun c => by
        rw [ids_stR] at c
        obtain ⟨q, hq, e⟩ := List.mem_map.1 c
        exact hno q hq e)
    have HE := Lib.hid (show RFk w w B G x (leaveS (stR R) id) last from by
      rw [leave_none (by
        rw [ids_stR]
        intro c
        obtain ⟨q, hq, e⟩ := List.mem_map.1 c
        exact hno q hq e)]
      exact RFk.refl ⟨R, A, c, H.out, rfl, HG.out⟩)
    clear hno
    go_wp2_with fail
    go_ret
    exact ⟨rfl, HE.out⟩
end Fee
end Go.Proofs.Ytlbfjdpcnnplnaa
