/- The walk of StagedLives. -/
import Derived.Test.YtbmabfnjjflbnaaYrOnePut
import Derived.Test.YtbmabfnjjflbnaaYrAll
namespace Go.Proofs.Ytbmabfnjjflbnaa
namespace StagedLives
open Go.ChangeShapes Go.WideShapes Go.ChangeAt Go.RowKit Go.Maps
open Num Mem Words Chacha Aead Poly Quiet RowV RowS Yd

theorem one_any {B g b x last thrown : Nat} {R : List RPk} {Y : Int → List Pk} {W : World} (h : Both B g b x R Y last thrown W) (k o : Int) (hok : okI o) (A : Option Addr) (m c : Nat) (f : Nat → Nat) (hf : ∀ i, f i < 256) (hm : m ≤ 1510) (hl : last < 100000) (ht : thrown < 100000)
    (hrd : Rd W A m f) (hnil : A = none → m = 0 ∧ c = 0) (hag : ∀ a, A = some a → m ≠ 0 → a.block < B) :
    Calls Try.prog 10 #[.pointer (some ⟨g, 0, none⟩), .pointer (some ⟨x, 0, none⟩), .agg #[.int .i64 k, .int .i64 o, .slice A m c]] W fun e w' => e = .returned (.bool true) ∧ ∃ R' Y' l' t', Both B g b x R' Y' l' t' w' ∧ Below B W w' ∧ l' ≤ last + 1 ∧ t' ≤ thrown + 8 := by
  by_cases h0 : k = 0
  · subst h0
    refine (one_put h o hok A m c f hf hm hl ht hrd hnil hag).mono ?_
    rintro e w' ⟨he, R', Y', l', t', h1, h2, h3, h4⟩
    exact ⟨he, R', Y', l', t', h1, h2, h3, by omega⟩
  by_cases h1 : k = 1
  · subst h1
    refine (one_take h o hok A m c).mono ?_
    rintro e w' ⟨he, R', Y', h1, h2⟩
    exact ⟨he, R', Y', _, _, h1, h2, by omega, by omega⟩
  by_cases h2 : k = 2
  · subst h2
    refine (one_all h o hok A m c).mono ?_
    rintro e w' ⟨he, R', Y', h1, h2⟩
    exact ⟨he, R', Y', _, _, h1, h2, by omega, by omega⟩
  by_cases h3 : k = 3
  · subst h3
    have hf := h.yw.few o
    refine (one_drop h o hok (by omega) A m c).mono ?_
    rintro e w' ⟨he, R', Y', h1, h2⟩
    exact ⟨he, R', Y', _, _, h1, h2, by omega, by omega⟩
  · refine (one_else k o A m c ⟨h0, h1, h2, h3⟩ _ _ W).mono ?_
    rintro e w' ⟨he, hb⟩
    exact ⟨he, R, Y, _, _, h.below hb, hb.mono h.base, by omega, by omega⟩

/-- the calls, a nil slice of no room -/
def Nils (N : Nat) (Q : Nat → OpV) : Prop := ∀ i, i < N → (Q i).A = none → (Q i).m = 0 ∧ (Q i).c = 0
theorem open_opN {w : World} {cs : List Value} (hl : cs.length = 3) (h : Shp.Good w shOp cs) : ∃ q : OpV, cs = opL q ∧ (q.A = none → q.m = 0 ∧ q.c = 0) := by
  unfold shOp at h
  obtain ⟨v0, r0, rfl, ⟨k, e0, hk⟩, h, hl⟩ := Shp.good_cons1 h rfl hl
  obtain ⟨v1, r1, rfl, ⟨o, e1, ho⟩, h, hl⟩ := Shp.good_cons1 h rfl hl
  obtain ⟨v2, r2, rfl, hb, h, hl⟩ := Shp.good_cons1 h rfl hl
  obtain rfl := Shp.good_nil hl
  obtain ⟨A, n, c, e2, h1, h2, h3, _⟩ := hb
  injection e0 with e0
  injection e1 with e1
  injection e2 with e2
  subst e0 e1 e2
  exact ⟨⟨k, o, A, n, c, fun _ => 0⟩, rfl, h3⟩
theorem open_opsN {w : World} {A : Option Addr} {n c : Nat} (h : Shp.Good w (.list (.obj shOp)) [.slice A n c]) : n ≤ 9223372036854775807 ∧ ∃ Q, IsOps w A n Q ∧ Nils n Q := by
  obtain ⟨h1, h2, h3, C, hC, h4⟩ := Shp.list_rows h (by show 0 < 3; omega)
  haveI : Inhabited OpV := ⟨⟨0, 0, none, 0, 0, fun _ => 0⟩⟩
  obtain ⟨Q, hQ⟩ := Go.Deep.choose_lt (p := fun i (q : OpV) => C i = opL q ∧ okI q.k ∧ okI q.o ∧ (∀ j, q.f j < 256) ∧ Rd w q.A q.m q.f ∧ q.m ≤ 9223372036854775807 ∧ (∀ a, q.A = some a → q.m ≠ 0 → a.block < w.heap.size)) (fun i hi => open_op (hC i hi).1 (hC i hi).2)
  refine ⟨by have : maxLen = 9223372036854775807 := rfl; omega, Q, ⟨fun i hi => (hQ i hi).2, ?_⟩, fun i hi => ?_⟩
  · rcases h4 with h0 | ⟨b, off, e, hlt, hx⟩
    · exact .inl h0
    · exact .inr ⟨b, off, e, hlt, fun i hi j v hv => hx i hi j v (by rw [(hQ i hi).1]; exact hv)⟩
  · obtain ⟨q, hq, hn⟩ := open_opN (hC i hi).1 (hC i hi).2
    rw [(hQ i hi).1] at hq
    unfold opL at hq
    injection hq with _ hq
    injection hq with _ hq
    injection hq with hq _
    injection hq with e1 e2 e3
    rw [e1, e2, e3]
    exact hn

set_option maxRecDepth 100000 in
set_option maxHeartbeats 8000000 in
theorem walk0 (A : Option Addr) (N c : Nat) (Q : Nat → OpV) (own : Int) (hown : okI own) (w : World) (h : IsOps w A N Q) (hni : Nils N Q) : Calls Try.prog 3 #[.slice A N c, .int .i64 own] w fun e w' => e = .returned (.bool true) ∧ Below w.heap.size w w' := by
  have HQ := Lib.hid h
  have HNI := Lib.hid hni
  have HN := Lib.hid (new_any w)
  have HAL := Lib.hid alive_ok
  clear h hni
  go_enter Try.func3, Try.ntmps3
  go_wp2_with fail
  refine HN.out.mono ?_
  rintro e w1 ⟨g, b, rfl, hb1, hy⟩
  have HY := Lib.hid hy
  have HB := Lib.hid hb1
  clear hy hb1 HN
  go_upto_region 3 with fail
  refine cut_world (fun X => Both w.heap.size g b w1.heap.size [] (fun _ => []) 0 0 X ∧ Below w.heap.size w X) (by
    have hb2 := below_alloc (Below.refl w1.heap.size w1) (.cells #[.slice none 0 0, .int .u64 0, .int .u64 0] 29)
    exact ⟨⟨HY.out.below hb2, ⟨none, 0, Whole.new _ _ _, World.ownsRow_nil _ _ _ _, fun p hp => (by cases hp), fun p hp => (by cases hp), HB.out.size⟩, fun _ => rfl, rfl, Nat.le_trans HB.out.size hb2.size⟩, HB.out.trans (hb2.mono HB.out.size)⟩) ?_
  generalize w1.heap.size = x
  clear HY HB
  clear w1
  rintro X0 ⟨x1, x2⟩
  have HC := Lib.hid x1
  have HB := Lib.hid x2
  clear x1 x2
  go_wp2_with fail
  go_loopw [7] (fun i X => ∃ (k : Nat) (R : List RPk) (Y : Int → List Pk) (l t : Nat), k ≤ 200 ∧ i = .int .i64 (k : Nat) ∧ l ≤ k ∧ t ≤ 8 * k ∧ Both w.heap.size g b x R Y l t X ∧ Below w.heap.size w X) (fun i _ => 200 - (intOf i).toNat)
  case atStart => exact ⟨0, [], _, 0, 0, by omega, rfl, by omega, by omega, HC.out, HB.out⟩
  case round =>
    obtain ⟨k, R, Y, l, t, hk, rfl, hlk, htk, hbo, hbw⟩ := hrel
    have HC1 := Lib.hid hbo
    have HB1 := Lib.hid hbw
    clear hbo hbw HC HB
    by_cases hlt : k < N ∧ k < 200
    · obtain ⟨hkN, hk2⟩ := hlt
      have hkN' : (k : Int) < (N : Int) := by omega
      have hk2' : (k : Int) < 200 := by omega
      have hr0 : ∃ bo off, A = some ⟨bo, off, none⟩ ∧ ∀ V, Below w.heap.size w V → V.rangeAt bo (off + k * 3) (opL (Q k)) := by
        rcases HQ.out.2 with h0 | ⟨bo, off, e, _, _⟩
        · omega
        · refine ⟨bo, off, e, fun V hV => ?_⟩
          obtain ⟨bo', off', e', hr⟩ := HQ.out.range hV hkN
          rw [e] at e'
          injection e' with e'
          injection e' with e1 e2
          subst e1 e2
          exact hr
      obtain ⟨bo, off, rfl, hr⟩ := hr0
      have hq := HQ.out.1 k hkN
      have hqn := HNI.out k hkN
      obtain ⟨⟨qk, qo, qA, qm, qc, qf⟩, hqe⟩ : ∃ q, Q k = q := ⟨_, rfl⟩
      rw [hqe] at hq hqn hr
      have HR := Lib.hid hr
      have HQK := Lib.hid hq
      have HQN := Lib.hid hqn
      have c2 : wr.cell? ⟨bo, off + k * 3 + 2, none⟩ = some (.slice qA qm qc) := hr wr HB1.out 2 _ rfl
      clear hr hq hqn hqe
      by_cases ha : 100 < qm ∧ qm ≤ 1500
      · have d1 : decide (100 < (qm : Int)) = true := decide_eq_true (by omega)
        have d2 : decide ((qm : Int) ≤ 1500) = true := decide_eq_true (by omega)
        go_wp2_with fail
        refine (HAL.out _).mono ?_
        rintro e w5 ⟨rfl, hb5⟩
        have H5 := Lib.hid (below_trans HB1.out hb5)
        clear hb5
        go_wp2_with fail
        go_ret
        exact ⟨rfl, H5.out⟩
      · by_cases hb : 1510 < qm
        · have d1 : decide (100 < (qm : Int)) = true := decide_eq_true (by omega)
          have d2 : decide ((qm : Int) ≤ 1500) = false := decide_eq_false (by omega)
          have d3 : decide (1510 < (qm : Int)) = true := decide_eq_true (by omega)
          go_wp2_with fail
          refine (HAL.out _).mono ?_
          rintro e w5 ⟨rfl, hb5⟩
          have H5 := Lib.hid (below_trans HB1.out hb5)
          clear hb5
          go_wp2_with fail
          go_ret
          exact ⟨rfl, H5.out⟩
        · have d3 : decide (1510 < (qm : Int)) = false := decide_eq_false (by omega)
          have hqm : qm ≤ 1510 := by omega
          by_cases hc : 100 < qm
          · have d1 : decide (100 < (qm : Int)) = true := decide_eq_true (by omega)
            have d2 : decide ((qm : Int) ≤ 1500) = false := decide_eq_false (by omega)
            go_upto_region 8 with fail
            refine region_drew (fun V => Below w.heap.size w V) (by kernel_rfl) (Below.drew HB1.out) (fun hS => ?_)
            refine take 0 _ rfl (by kernel_rfl) (by kernel_rfl) (by kernel_rfl) (fun _ _ _ h => h) (by rfl) hS (by intro w _; go_simp; with_reducible rfl) ?_
            try simp only [Act.put, List.setIfInBounds_toArray, List.set_cons_zero, List.set_cons_succ]
            refine take 1 _ rfl (by kernel_rfl) (by kernel_rfl) (by kernel_rfl) (fun _ _ _ h => h) (by rfl) hS (by intro w _; go_simp; with_reducible rfl) ?_
            try simp only [Act.put, List.setIfInBounds_toArray, List.set_cons_zero, List.set_cons_succ]
            refine take 2 _ rfl (by kernel_rfl) (by kernel_rfl) (by kernel_rfl) (fun _ _ _ h => h) (by rfl) hS (by intro w _; go_simp; with_reducible rfl) ?_
            try simp only [Act.put, List.setIfInBounds_toArray, List.set_cons_zero, List.set_cons_succ]
            refine take 3 _ rfl (by kernel_rfl) (by kernel_rfl) (by kernel_rfl) (fun _ _ _ h => h) (by rfl) hS (by intro w _; go_simp; with_reducible rfl) ?_
            try simp only [Act.put, List.setIfInBounds_toArray, List.set_cons_zero, List.set_cons_succ]
            refine take 4 _ rfl (by kernel_rfl) (by kernel_rfl) (by kernel_rfl) (fun _ _ _ h => h) (by rfl) hS (by intro w _; go_simp; with_reducible rfl) ?_
            try simp only [Act.put, List.setIfInBounds_toArray, List.set_cons_zero, List.set_cons_succ]
            refine take 5 (.agg #[.int .i64 qk, .int .i64 qo, .slice qA qm qc]) rfl (by kernel_rfl) (by kernel_rfl) (by kernel_rfl) (fun _ _ _ h => h) (by rfl) hS (fun V hV => by
              have k0 : V.cell? ⟨bo, off + k * 3, none⟩ = some (.int .i64 qk) := HR.out V hV 0 _ rfl
              have k1 : V.cell? ⟨bo, off + k * 3 + 1, none⟩ = some (.int .i64 qo) := HR.out V hV 1 _ rfl
              have k2 : V.cell? ⟨bo, off + k * 3 + 2, none⟩ = some (.slice qA qm qc) := HR.out V hV 2 _ rfl
              go_simp
              try with_reducible rfl) ?_
            try simp only [Act.put, List.setIfInBounds_toArray, List.set_cons_zero, List.set_cons_succ]
            refine alone 6 rfl (by kernel_rfl) (by rfl) ?_
            intro K hK
            go_simp
            refine (one_any (HC1.out.below (Below.drew (Below.refl _ _))) qk qo HQK.out.2.1 qA qm qc qf HQK.out.2.2.1 hqm (by omega) (by omega) (HQK.out.2.2.2.1.below hS (Nat.le_refl _)) HQN.out HQK.out.2.2.2.2.2).mono ?_
            rintro e w2 ⟨rfl, R', Y', l', t', hbo2, hbw2, hl2, ht2⟩
            have HC2 := Lib.hid hbo2
            have HB2 := Lib.hid ((Below.drew HB1.out).trans hbw2)
            have hS := HB2.out
            clear hbo2 hbw2
            obtain ⟨A5, c5, hr5⟩ := HC2.out.ry
            have HR5 := Lib.hid hr5
            have HWX := Lib.hid (rwaits_any HC2.out.ry (by have := HC2.out.few; omega) own)
            have HWY := Lib.hid (waits_any own hown HC2.out.yw)
            have HTA := Lib.hid (all_any HC2.out.yw)
            rw [HC2.out.ag.wait_ own] at HWX
            rw [HC2.out.all] at HTA
            generalize (Y' own).length = n0 at HWX HWY
            obtain ⟨n5, hn5⟩ : ∃ n5, R'.length = n5 := ⟨_, rfl⟩
            have c0 : w2.cell? ⟨x, 0, none⟩ = some (.slice A5 n5 c5) := by rw [← hn5]; exact hr5.obj.cell 0
            rw [hn5] at HTA
            have HN5 := Lib.hid hn5
            clear hr5 hn5
            have hn0 : ((n0 : Int) != (n0 : Int)) = false := bne_self_eq_false _
            have hn1 : ((n5 : Int) != (n5 : Int)) = false := bne_self_eq_false _
            have hn2 : ((t' : Int) != (t' : Int)) = false := bne_self_eq_false _
            go_simp
            refine hK.out _ _ hS ?_
            clear hK K
            try simp only [Act.put, List.setIfInBounds_toArray, List.set_cons_zero, List.set_cons_succ]
            refine take 7 _ rfl (by kernel_rfl) (by kernel_rfl) (by kernel_rfl) (fun _ _ _ h => h) (by rfl) hS (by intro w _; go_simp; with_reducible rfl) ?_
            try simp only [Act.put, List.setIfInBounds_toArray, List.set_cons_zero, List.set_cons_succ]
            refine take 8 _ rfl (by kernel_rfl) (by kernel_rfl) (by kernel_rfl) (fun _ _ _ h => h) (by rfl) hS (by intro w _; go_simp; with_reducible rfl) ?_
            try simp only [Act.put, List.setIfInBounds_toArray, List.set_cons_zero, List.set_cons_succ]
            refine take 9 _ rfl (by kernel_rfl) (by kernel_rfl) (by kernel_rfl) (fun _ _ _ h => h) (by rfl) hS (by intro w _; go_simp; with_reducible rfl) ?_
            try simp only [Act.put, List.setIfInBounds_toArray, List.set_cons_zero, List.set_cons_succ]
            refine take 10 _ rfl (by kernel_rfl) (by kernel_rfl) (by kernel_rfl) (fun _ _ _ h => h) (by rfl) hS (by intro w _; go_simp; with_reducible rfl) ?_
            try simp only [Act.put, List.setIfInBounds_toArray, List.set_cons_zero, List.set_cons_succ]
            refine take 12 _ rfl (by kernel_rfl) (by kernel_rfl) (by kernel_rfl) (fun _ _ _ h => h) (by rfl) hS (by intro w _; go_simp; with_reducible rfl) ?_
            try simp only [Act.put, List.setIfInBounds_toArray, List.set_cons_zero, List.set_cons_succ]
            refine take 13 _ rfl (by kernel_rfl) (by kernel_rfl) (by kernel_rfl) (fun _ _ _ h => h) (by rfl) hS (by intro w _; go_simp; with_reducible rfl) ?_
            try simp only [Act.put, List.setIfInBounds_toArray, List.set_cons_zero, List.set_cons_succ]
            refine alone 11 rfl (by kernel_rfl) (by rfl) ?_
            intro K hK
            go_simp
            refine HWY.out.mono ?_
            rintro e w3 ⟨rfl, rfl⟩
            go_simp
            refine hK.out _ _ hS ?_
            clear hK K
            try simp only [Act.put, List.setIfInBounds_toArray, List.set_cons_zero, List.set_cons_succ]
            refine alone 14 rfl (by kernel_rfl) (by rfl) ?_
            intro K hK
            go_simp
            refine HWX.out.mono ?_
            rintro e w3 ⟨rfl, rfl⟩
            go_simp
            refine hK.out _ _ hS ?_
            clear hK K HWX HWY
            try simp only [Act.put, List.setIfInBounds_toArray, List.set_cons_zero, List.set_cons_succ]
            refine take 15 _ rfl (by kernel_rfl) (by kernel_rfl) (by kernel_rfl) (fun _ _ _ h => h) (by rfl) hS (by intro w _; go_simp; with_reducible rfl) ?_
            try simp only [Act.put, List.setIfInBounds_toArray, List.set_cons_zero, List.set_cons_succ]
            refine take 16 _ rfl (by kernel_rfl) (by kernel_rfl) (by kernel_rfl) (fun _ _ _ h => h) (by rfl) hS (by intro w _; go_simp; with_reducible rfl) ?_
            try simp only [Act.put, List.setIfInBounds_toArray, List.set_cons_zero, List.set_cons_succ]
            refine take 17 _ rfl (by kernel_rfl) (by kernel_rfl) (by kernel_rfl) (fun _ _ _ h => h) (by rfl) hS (by intro w _; go_simp; with_reducible rfl) ?_
            try simp only [Act.put, List.setIfInBounds_toArray, List.set_cons_zero, List.set_cons_succ]
            refine take 18 _ rfl (by kernel_rfl) (by kernel_rfl) (by kernel_rfl) (fun _ _ _ h => h) (by rfl) hS (by intro w _; go_simp; with_reducible rfl) ?_
            try simp only [Act.put, List.setIfInBounds_toArray, List.set_cons_zero, List.set_cons_succ]
            refine take 20 _ rfl (by kernel_rfl) (by kernel_rfl) (by kernel_rfl) (fun _ _ _ h => h) (by rfl) hS (by intro w _; go_simp; with_reducible rfl) ?_
            try simp only [Act.put, List.setIfInBounds_toArray, List.set_cons_zero, List.set_cons_succ]
            refine take 21 _ rfl (by kernel_rfl) (by kernel_rfl) (by kernel_rfl) (fun _ _ _ h => h) (by rfl) hS (by intro w _; go_simp; with_reducible rfl) ?_
            try simp only [Act.put, List.setIfInBounds_toArray, List.set_cons_zero, List.set_cons_succ]
            refine take 22 _ rfl (by kernel_rfl) (by kernel_rfl) (by kernel_rfl) (fun _ _ _ h => h) (by rfl) hS (by intro w _; go_simp; with_reducible rfl) ?_
            try simp only [Act.put, List.setIfInBounds_toArray, List.set_cons_zero, List.set_cons_succ]
            refine ready_two 19 23 rfl rfl (by kernel_rfl) (by rfl) (by rfl) ?_ ?_
            · intro K hK
              go_simp
              refine HTA.out.mono ?_
              rintro e w3 ⟨rfl, hb3⟩
              have HC3 := Lib.hid (HC2.out.below hb3)
              have HB3 := Lib.hid (HB2.out.trans (hb3.mono HC2.out.base))
              have hS := HB3.out
              have HR6 := Lib.hid (HR5.out.below hb3)
              have c0 : w3.cell? ⟨x, 0, none⟩ = some (.slice A5 n5 c5) := by rw [← HN5.out]; exact HR6.out.obj.cell 0
              clear hb3 HTA
              go_simp
              refine hK.out _ _ hS ?_
              clear hK K
              try simp only [Act.put, List.setIfInBounds_toArray, List.set_cons_zero, List.set_cons_succ]
              refine alone 23 rfl (by kernel_rfl) (by rfl) ?_
              intro K hK
              go_simp
              refine hK.out _ _ hS ?_
              clear hK K
              try simp only [Act.put, List.setIfInBounds_toArray, List.set_cons_zero, List.set_cons_succ]
              refine take 24 _ rfl (by kernel_rfl) (by kernel_rfl) (by kernel_rfl) (fun _ _ _ h => h) (by rfl) hS (by intro w _; go_simp; with_reducible rfl) ?_
              try simp only [Act.put, List.setIfInBounds_toArray, List.set_cons_zero, List.set_cons_succ]
              have c2 : w3.cell? ⟨x, 2, none⟩ = some (.int .u64 (t' : Nat)) := HR6.out.obj.cell 2
              have HTT := Lib.hid (thrown_any HC3.out.yw)
              refine take 25 _ rfl (by kernel_rfl) (by kernel_rfl) (by kernel_rfl) (fun _ _ _ h => h) (by rfl) hS (by intro w _; go_simp; with_reducible rfl) ?_
              try simp only [Act.put, List.setIfInBounds_toArray, List.set_cons_zero, List.set_cons_succ]
              refine take 26 _ rfl (by kernel_rfl) (by kernel_rfl) (by kernel_rfl) (fun _ _ _ h => h) (by rfl) hS (by intro w _; go_simp; with_reducible rfl) ?_
              try simp only [Act.put, List.setIfInBounds_toArray, List.set_cons_zero, List.set_cons_succ]
              refine take 27 _ rfl (by kernel_rfl) (by kernel_rfl) (by kernel_rfl) (fun _ _ _ h => h) (by rfl) hS (by intro w _; go_simp; with_reducible rfl) ?_
              try simp only [Act.put, List.setIfInBounds_toArray, List.set_cons_zero, List.set_cons_succ]
              refine take 28 _ rfl (by kernel_rfl) (by kernel_rfl) (by kernel_rfl) (fun _ _ _ h => h) (by rfl) hS (by intro w _; go_simp; with_reducible rfl) ?_
              try simp only [Act.put, List.setIfInBounds_toArray, List.set_cons_zero, List.set_cons_succ]
              refine take 30 _ rfl (by kernel_rfl) (by kernel_rfl) (by kernel_rfl) (fun _ _ _ h => h) (by rfl) hS (by intro w _; go_simp; with_reducible rfl) ?_
              try simp only [Act.put, List.setIfInBounds_toArray, List.set_cons_zero, List.set_cons_succ]
              refine take 31 _ rfl (by kernel_rfl) (by kernel_rfl) (by kernel_rfl) (fun _ _ _ h => h) (by rfl) hS (by intro w _; go_simp; with_reducible rfl) ?_
              try simp only [Act.put, List.setIfInBounds_toArray, List.set_cons_zero, List.set_cons_succ]
              refine take 32 _ rfl (by kernel_rfl) (by kernel_rfl) (by kernel_rfl) (fun _ _ _ h => h) (by rfl) hS (by intro w _; go_simp; with_reducible rfl) ?_
              try simp only [Act.put, List.setIfInBounds_toArray, List.set_cons_zero, List.set_cons_succ]
              refine ready_two 29 33 rfl rfl (by kernel_rfl) (by rfl) (by rfl) ?_ ?_
              · intro K hK
                go_simp
                refine HTT.out.mono ?_
                rintro e w4 ⟨rfl, rfl⟩
                go_simp
                refine hK.out _ _ hS ?_
                clear hK K
                try simp only [Act.put, List.setIfInBounds_toArray, List.set_cons_zero, List.set_cons_succ]
                refine alone 33 rfl (by kernel_rfl) (by rfl) ?_
                intro K hK
                go_simp
                refine hK.out _ _ hS ?_
                clear hK K
                try simp only [Act.put, List.setIfInBounds_toArray, List.set_cons_zero, List.set_cons_succ]
                refine take 34 _ rfl (by kernel_rfl) (by kernel_rfl) (by kernel_rfl) (fun _ _ _ h => h) (by rfl) hS (by intro w _; go_simp; with_reducible rfl) ?_
                try simp only [Act.put, List.setIfInBounds_toArray, List.set_cons_zero, List.set_cons_succ]
                refine take 35 _ rfl (by kernel_rfl) (by kernel_rfl) (by kernel_rfl) (fun _ _ _ h => h) (by rfl) hS (by intro w _; go_simp; with_reducible rfl) ?_
                try simp only [Act.put, List.setIfInBounds_toArray, List.set_cons_zero, List.set_cons_succ]
                refine region_end (by kernel_rfl) ?_
                go_wp2_with fail
                go_round
                case rel => exact ⟨k + 1, R', Y', l', t', by omega, by go_num, by omega, by omega, HC3.out, HB3.out⟩
                case measure => simp [intOf]; omega
              · intro K hK
                go_simp
                refine hK.out _ _ hS ?_
                clear hK K
                try simp only [Act.put, List.setIfInBounds_toArray, List.set_cons_zero, List.set_cons_succ]
                refine alone 29 rfl (by kernel_rfl) (by rfl) ?_
                intro K hK
                go_simp
                refine HTT.out.mono ?_
                rintro e w4 ⟨rfl, rfl⟩
                go_simp
                refine hK.out _ _ hS ?_
                clear hK K
                try simp only [Act.put, List.setIfInBounds_toArray, List.set_cons_zero, List.set_cons_succ]
                refine take 34 _ rfl (by kernel_rfl) (by kernel_rfl) (by kernel_rfl) (fun _ _ _ h => h) (by rfl) hS (by intro w _; go_simp; with_reducible rfl) ?_
                try simp only [Act.put, List.setIfInBounds_toArray, List.set_cons_zero, List.set_cons_succ]
                refine take 35 _ rfl (by kernel_rfl) (by kernel_rfl) (by kernel_rfl) (fun _ _ _ h => h) (by rfl) hS (by intro w _; go_simp; with_reducible rfl) ?_
                try simp only [Act.put, List.setIfInBounds_toArray, List.set_cons_zero, List.set_cons_succ]
                refine region_end (by kernel_rfl) ?_
                go_wp2_with fail
                go_round
                case rel => exact ⟨k + 1, R', Y', l', t', by omega, by go_num, by omega, by omega, HC3.out, HB3.out⟩
                case measure => simp [intOf]; omega
            · intro K hK
              go_simp
              refine hK.out _ _ hS ?_
              clear hK K
              try simp only [Act.put, List.setIfInBounds_toArray, List.set_cons_zero, List.set_cons_succ]
              refine take 24 _ rfl (by kernel_rfl) (by kernel_rfl) (by kernel_rfl) (fun _ _ _ h => h) (by rfl) hS (by intro w _; go_simp; with_reducible rfl) ?_
              try simp only [Act.put, List.setIfInBounds_toArray, List.set_cons_zero, List.set_cons_succ]
              refine alone 19 rfl (by kernel_rfl) (by rfl) ?_
              intro K hK
              go_simp
              refine HTA.out.mono ?_
              rintro e w3 ⟨rfl, hb3⟩
              have HC3 := Lib.hid (HC2.out.below hb3)
              have HB3 := Lib.hid (HB2.out.trans (hb3.mono HC2.out.base))
              have hS := HB3.out
              have HR6 := Lib.hid (HR5.out.below hb3)
              have c0 : w3.cell? ⟨x, 0, none⟩ = some (.slice A5 n5 c5) := by rw [← HN5.out]; exact HR6.out.obj.cell 0
              clear hb3 HTA
              go_simp
              refine hK.out _ _ hS ?_
              clear hK K
              try simp only [Act.put, List.setIfInBounds_toArray, List.set_cons_zero, List.set_cons_succ]
              have c2 : w3.cell? ⟨x, 2, none⟩ = some (.int .u64 (t' : Nat)) := HR6.out.obj.cell 2
              have HTT := Lib.hid (thrown_any HC3.out.yw)
              refine take 25 _ rfl (by kernel_rfl) (by kernel_rfl) (by kernel_rfl) (fun _ _ _ h => h) (by rfl) hS (by intro w _; go_simp; with_reducible rfl) ?_
              try simp only [Act.put, List.setIfInBounds_toArray, List.set_cons_zero, List.set_cons_succ]
              refine take 26 _ rfl (by kernel_rfl) (by kernel_rfl) (by kernel_rfl) (fun _ _ _ h => h) (by rfl) hS (by intro w _; go_simp; with_reducible rfl) ?_
              try simp only [Act.put, List.setIfInBounds_toArray, List.set_cons_zero, List.set_cons_succ]
              refine take 27 _ rfl (by kernel_rfl) (by kernel_rfl) (by kernel_rfl) (fun _ _ _ h => h) (by rfl) hS (by intro w _; go_simp; with_reducible rfl) ?_
              try simp only [Act.put, List.setIfInBounds_toArray, List.set_cons_zero, List.set_cons_succ]
              refine take 28 _ rfl (by kernel_rfl) (by kernel_rfl) (by kernel_rfl) (fun _ _ _ h => h) (by rfl) hS (by intro w _; go_simp; with_reducible rfl) ?_
              try simp only [Act.put, List.setIfInBounds_toArray, List.set_cons_zero, List.set_cons_succ]
              refine take 30 _ rfl (by kernel_rfl) (by kernel_rfl) (by kernel_rfl) (fun _ _ _ h => h) (by rfl) hS (by intro w _; go_simp; with_reducible rfl) ?_
              try simp only [Act.put, List.setIfInBounds_toArray, List.set_cons_zero, List.set_cons_succ]
              refine take 31 _ rfl (by kernel_rfl) (by kernel_rfl) (by kernel_rfl) (fun _ _ _ h => h) (by rfl) hS (by intro w _; go_simp; with_reducible rfl) ?_
              try simp only [Act.put, List.setIfInBounds_toArray, List.set_cons_zero, List.set_cons_succ]
              refine take 32 _ rfl (by kernel_rfl) (by kernel_rfl) (by kernel_rfl) (fun _ _ _ h => h) (by rfl) hS (by intro w _; go_simp; with_reducible rfl) ?_
              try simp only [Act.put, List.setIfInBounds_toArray, List.set_cons_zero, List.set_cons_succ]
              refine ready_two 29 33 rfl rfl (by kernel_rfl) (by rfl) (by rfl) ?_ ?_
              · intro K hK
                go_simp
                refine HTT.out.mono ?_
                rintro e w4 ⟨rfl, rfl⟩
                go_simp
                refine hK.out _ _ hS ?_
                clear hK K
                try simp only [Act.put, List.setIfInBounds_toArray, List.set_cons_zero, List.set_cons_succ]
                refine alone 33 rfl (by kernel_rfl) (by rfl) ?_
                intro K hK
                go_simp
                refine hK.out _ _ hS ?_
                clear hK K
                try simp only [Act.put, List.setIfInBounds_toArray, List.set_cons_zero, List.set_cons_succ]
                refine take 34 _ rfl (by kernel_rfl) (by kernel_rfl) (by kernel_rfl) (fun _ _ _ h => h) (by rfl) hS (by intro w _; go_simp; with_reducible rfl) ?_
                try simp only [Act.put, List.setIfInBounds_toArray, List.set_cons_zero, List.set_cons_succ]
                refine take 35 _ rfl (by kernel_rfl) (by kernel_rfl) (by kernel_rfl) (fun _ _ _ h => h) (by rfl) hS (by intro w _; go_simp; with_reducible rfl) ?_
                try simp only [Act.put, List.setIfInBounds_toArray, List.set_cons_zero, List.set_cons_succ]
                refine region_end (by kernel_rfl) ?_
                go_wp2_with fail
                go_round
                case rel => exact ⟨k + 1, R', Y', l', t', by omega, by go_num, by omega, by omega, HC3.out, HB3.out⟩
                case measure => simp [intOf]; omega
              · intro K hK
                go_simp
                refine hK.out _ _ hS ?_
                clear hK K
                try simp only [Act.put, List.setIfInBounds_toArray, List.set_cons_zero, List.set_cons_succ]
                refine alone 29 rfl (by kernel_rfl) (by rfl) ?_
                intro K hK
                go_simp
                refine HTT.out.mono ?_
                rintro e w4 ⟨rfl, rfl⟩
                go_simp
                refine hK.out _ _ hS ?_
                clear hK K
                try simp only [Act.put, List.setIfInBounds_toArray, List.set_cons_zero, List.set_cons_succ]
                refine take 34 _ rfl (by kernel_rfl) (by kernel_rfl) (by kernel_rfl) (fun _ _ _ h => h) (by rfl) hS (by intro w _; go_simp; with_reducible rfl) ?_
                try simp only [Act.put, List.setIfInBounds_toArray, List.set_cons_zero, List.set_cons_succ]
                refine take 35 _ rfl (by kernel_rfl) (by kernel_rfl) (by kernel_rfl) (fun _ _ _ h => h) (by rfl) hS (by intro w _; go_simp; with_reducible rfl) ?_
                try simp only [Act.put, List.setIfInBounds_toArray, List.set_cons_zero, List.set_cons_succ]
                refine region_end (by kernel_rfl) ?_
                go_wp2_with fail
                go_round
                case rel => exact ⟨k + 1, R', Y', l', t', by omega, by go_num, by omega, by omega, HC3.out, HB3.out⟩
                case measure => simp [intOf]; omega
          · have d1 : decide (100 < (qm : Int)) = false := decide_eq_false (by omega)
            go_upto_region 8 with fail
            refine region_drew (fun V => Below w.heap.size w V) (by kernel_rfl) (Below.drew HB1.out) (fun hS => ?_)
            refine take 0 _ rfl (by kernel_rfl) (by kernel_rfl) (by kernel_rfl) (fun _ _ _ h => h) (by rfl) hS (by intro w _; go_simp; with_reducible rfl) ?_
            try simp only [Act.put, List.setIfInBounds_toArray, List.set_cons_zero, List.set_cons_succ]
            refine take 1 _ rfl (by kernel_rfl) (by kernel_rfl) (by kernel_rfl) (fun _ _ _ h => h) (by rfl) hS (by intro w _; go_simp; with_reducible rfl) ?_
            try simp only [Act.put, List.setIfInBounds_toArray, List.set_cons_zero, List.set_cons_succ]
            refine take 2 _ rfl (by kernel_rfl) (by kernel_rfl) (by kernel_rfl) (fun _ _ _ h => h) (by rfl) hS (by intro w _; go_simp; with_reducible rfl) ?_
            try simp only [Act.put, List.setIfInBounds_toArray, List.set_cons_zero, List.set_cons_succ]
            refine take 3 _ rfl (by kernel_rfl) (by kernel_rfl) (by kernel_rfl) (fun _ _ _ h => h) (by rfl) hS (by intro w _; go_simp; with_reducible rfl) ?_
            try simp only [Act.put, List.setIfInBounds_toArray, List.set_cons_zero, List.set_cons_succ]
            refine take 4 _ rfl (by kernel_rfl) (by kernel_rfl) (by kernel_rfl) (fun _ _ _ h => h) (by rfl) hS (by intro w _; go_simp; with_reducible rfl) ?_
            try simp only [Act.put, List.setIfInBounds_toArray, List.set_cons_zero, List.set_cons_succ]
            refine take 5 (.agg #[.int .i64 qk, .int .i64 qo, .slice qA qm qc]) rfl (by kernel_rfl) (by kernel_rfl) (by kernel_rfl) (fun _ _ _ h => h) (by rfl) hS (fun V hV => by
              have k0 : V.cell? ⟨bo, off + k * 3, none⟩ = some (.int .i64 qk) := HR.out V hV 0 _ rfl
              have k1 : V.cell? ⟨bo, off + k * 3 + 1, none⟩ = some (.int .i64 qo) := HR.out V hV 1 _ rfl
              have k2 : V.cell? ⟨bo, off + k * 3 + 2, none⟩ = some (.slice qA qm qc) := HR.out V hV 2 _ rfl
              go_simp
              try with_reducible rfl) ?_
            try simp only [Act.put, List.setIfInBounds_toArray, List.set_cons_zero, List.set_cons_succ]
            refine alone 6 rfl (by kernel_rfl) (by rfl) ?_
            intro K hK
            go_simp
            refine (one_any (HC1.out.below (Below.drew (Below.refl _ _))) qk qo HQK.out.2.1 qA qm qc qf HQK.out.2.2.1 hqm (by omega) (by omega) (HQK.out.2.2.2.1.below hS (Nat.le_refl _)) HQN.out HQK.out.2.2.2.2.2).mono ?_
            rintro e w2 ⟨rfl, R', Y', l', t', hbo2, hbw2, hl2, ht2⟩
            have HC2 := Lib.hid hbo2
            have HB2 := Lib.hid ((Below.drew HB1.out).trans hbw2)
            have hS := HB2.out
            clear hbo2 hbw2
            obtain ⟨A5, c5, hr5⟩ := HC2.out.ry
            have HR5 := Lib.hid hr5
            have HWX := Lib.hid (rwaits_any HC2.out.ry (by have := HC2.out.few; omega) own)
            have HWY := Lib.hid (waits_any own hown HC2.out.yw)
            have HTA := Lib.hid (all_any HC2.out.yw)
            rw [HC2.out.ag.wait_ own] at HWX
            rw [HC2.out.all] at HTA
            generalize (Y' own).length = n0 at HWX HWY
            obtain ⟨n5, hn5⟩ : ∃ n5, R'.length = n5 := ⟨_, rfl⟩
            have c0 : w2.cell? ⟨x, 0, none⟩ = some (.slice A5 n5 c5) := by rw [← hn5]; exact hr5.obj.cell 0
            rw [hn5] at HTA
            have HN5 := Lib.hid hn5
            clear hr5 hn5
            have hn0 : ((n0 : Int) != (n0 : Int)) = false := bne_self_eq_false _
            have hn1 : ((n5 : Int) != (n5 : Int)) = false := bne_self_eq_false _
            have hn2 : ((t' : Int) != (t' : Int)) = false := bne_self_eq_false _
            go_simp
            refine hK.out _ _ hS ?_
            clear hK K
            try simp only [Act.put, List.setIfInBounds_toArray, List.set_cons_zero, List.set_cons_succ]
            refine take 7 _ rfl (by kernel_rfl) (by kernel_rfl) (by kernel_rfl) (fun _ _ _ h => h) (by rfl) hS (by intro w _; go_simp; with_reducible rfl) ?_
            try simp only [Act.put, List.setIfInBounds_toArray, List.set_cons_zero, List.set_cons_succ]
            refine take 8 _ rfl (by kernel_rfl) (by kernel_rfl) (by kernel_rfl) (fun _ _ _ h => h) (by rfl) hS (by intro w _; go_simp; with_reducible rfl) ?_
            try simp only [Act.put, List.setIfInBounds_toArray, List.set_cons_zero, List.set_cons_succ]
            refine take 9 _ rfl (by kernel_rfl) (by kernel_rfl) (by kernel_rfl) (fun _ _ _ h => h) (by rfl) hS (by intro w _; go_simp; with_reducible rfl) ?_
            try simp only [Act.put, List.setIfInBounds_toArray, List.set_cons_zero, List.set_cons_succ]
            refine take 10 _ rfl (by kernel_rfl) (by kernel_rfl) (by kernel_rfl) (fun _ _ _ h => h) (by rfl) hS (by intro w _; go_simp; with_reducible rfl) ?_
            try simp only [Act.put, List.setIfInBounds_toArray, List.set_cons_zero, List.set_cons_succ]
            refine take 12 _ rfl (by kernel_rfl) (by kernel_rfl) (by kernel_rfl) (fun _ _ _ h => h) (by rfl) hS (by intro w _; go_simp; with_reducible rfl) ?_
            try simp only [Act.put, List.setIfInBounds_toArray, List.set_cons_zero, List.set_cons_succ]
            refine take 13 _ rfl (by kernel_rfl) (by kernel_rfl) (by kernel_rfl) (fun _ _ _ h => h) (by rfl) hS (by intro w _; go_simp; with_reducible rfl) ?_
            try simp only [Act.put, List.setIfInBounds_toArray, List.set_cons_zero, List.set_cons_succ]
            refine alone 11 rfl (by kernel_rfl) (by rfl) ?_
            intro K hK
            go_simp
            refine HWY.out.mono ?_
            rintro e w3 ⟨rfl, rfl⟩
            go_simp
            refine hK.out _ _ hS ?_
            clear hK K
            try simp only [Act.put, List.setIfInBounds_toArray, List.set_cons_zero, List.set_cons_succ]
            refine alone 14 rfl (by kernel_rfl) (by rfl) ?_
            intro K hK
            go_simp
            refine HWX.out.mono ?_
            rintro e w3 ⟨rfl, rfl⟩
            go_simp
            refine hK.out _ _ hS ?_
            clear hK K HWX HWY
            try simp only [Act.put, List.setIfInBounds_toArray, List.set_cons_zero, List.set_cons_succ]
            refine take 15 _ rfl (by kernel_rfl) (by kernel_rfl) (by kernel_rfl) (fun _ _ _ h => h) (by rfl) hS (by intro w _; go_simp; with_reducible rfl) ?_
            try simp only [Act.put, List.setIfInBounds_toArray, List.set_cons_zero, List.set_cons_succ]
            refine take 16 _ rfl (by kernel_rfl) (by kernel_rfl) (by kernel_rfl) (fun _ _ _ h => h) (by rfl) hS (by intro w _; go_simp; with_reducible rfl) ?_
            try simp only [Act.put, List.setIfInBounds_toArray, List.set_cons_zero, List.set_cons_succ]
            refine take 17 _ rfl (by kernel_rfl) (by kernel_rfl) (by kernel_rfl) (fun _ _ _ h => h) (by rfl) hS (by intro w _; go_simp; with_reducible rfl) ?_
            try simp only [Act.put, List.setIfInBounds_toArray, List.set_cons_zero, List.set_cons_succ]
            refine take 18 _ rfl (by kernel_rfl) (by kernel_rfl) (by kernel_rfl) (fun _ _ _ h => h) (by rfl) hS (by intro w _; go_simp; with_reducible rfl) ?_
            try simp only [Act.put, List.setIfInBounds_toArray, List.set_cons_zero, List.set_cons_succ]
            refine take 20 _ rfl (by kernel_rfl) (by kernel_rfl) (by kernel_rfl) (fun _ _ _ h => h) (by rfl) hS (by intro w _; go_simp; with_reducible rfl) ?_
            try simp only [Act.put, List.setIfInBounds_toArray, List.set_cons_zero, List.set_cons_succ]
            refine take 21 _ rfl (by kernel_rfl) (by kernel_rfl) (by kernel_rfl) (fun _ _ _ h => h) (by rfl) hS (by intro w _; go_simp; with_reducible rfl) ?_
            try simp only [Act.put, List.setIfInBounds_toArray, List.set_cons_zero, List.set_cons_succ]
            refine take 22 _ rfl (by kernel_rfl) (by kernel_rfl) (by kernel_rfl) (fun _ _ _ h => h) (by rfl) hS (by intro w _; go_simp; with_reducible rfl) ?_
            try simp only [Act.put, List.setIfInBounds_toArray, List.set_cons_zero, List.set_cons_succ]
            refine ready_two 19 23 rfl rfl (by kernel_rfl) (by rfl) (by rfl) ?_ ?_
            · intro K hK
              go_simp
              refine HTA.out.mono ?_
              rintro e w3 ⟨rfl, hb3⟩
              have HC3 := Lib.hid (HC2.out.below hb3)
              have HB3 := Lib.hid (HB2.out.trans (hb3.mono HC2.out.base))
              have hS := HB3.out
              have HR6 := Lib.hid (HR5.out.below hb3)
              have c0 : w3.cell? ⟨x, 0, none⟩ = some (.slice A5 n5 c5) := by rw [← HN5.out]; exact HR6.out.obj.cell 0
              clear hb3 HTA
              go_simp
              refine hK.out _ _ hS ?_
              clear hK K
              try simp only [Act.put, List.setIfInBounds_toArray, List.set_cons_zero, List.set_cons_succ]
              refine alone 23 rfl (by kernel_rfl) (by rfl) ?_
              intro K hK
              go_simp
              refine hK.out _ _ hS ?_
              clear hK K
              try simp only [Act.put, List.setIfInBounds_toArray, List.set_cons_zero, List.set_cons_succ]
              refine take 24 _ rfl (by kernel_rfl) (by kernel_rfl) (by kernel_rfl) (fun _ _ _ h => h) (by rfl) hS (by intro w _; go_simp; with_reducible rfl) ?_
              try simp only [Act.put, List.setIfInBounds_toArray, List.set_cons_zero, List.set_cons_succ]
              have c2 : w3.cell? ⟨x, 2, none⟩ = some (.int .u64 (t' : Nat)) := HR6.out.obj.cell 2
              have HTT := Lib.hid (thrown_any HC3.out.yw)
              refine take 25 _ rfl (by kernel_rfl) (by kernel_rfl) (by kernel_rfl) (fun _ _ _ h => h) (by rfl) hS (by intro w _; go_simp; with_reducible rfl) ?_
              try simp only [Act.put, List.setIfInBounds_toArray, List.set_cons_zero, List.set_cons_succ]
              refine take 26 _ rfl (by kernel_rfl) (by kernel_rfl) (by kernel_rfl) (fun _ _ _ h => h) (by rfl) hS (by intro w _; go_simp; with_reducible rfl) ?_
              try simp only [Act.put, List.setIfInBounds_toArray, List.set_cons_zero, List.set_cons_succ]
              refine take 27 _ rfl (by kernel_rfl) (by kernel_rfl) (by kernel_rfl) (fun _ _ _ h => h) (by rfl) hS (by intro w _; go_simp; with_reducible rfl) ?_
              try simp only [Act.put, List.setIfInBounds_toArray, List.set_cons_zero, List.set_cons_succ]
              refine take 28 _ rfl (by kernel_rfl) (by kernel_rfl) (by kernel_rfl) (fun _ _ _ h => h) (by rfl) hS (by intro w _; go_simp; with_reducible rfl) ?_
              try simp only [Act.put, List.setIfInBounds_toArray, List.set_cons_zero, List.set_cons_succ]
              refine take 30 _ rfl (by kernel_rfl) (by kernel_rfl) (by kernel_rfl) (fun _ _ _ h => h) (by rfl) hS (by intro w _; go_simp; with_reducible rfl) ?_
              try simp only [Act.put, List.setIfInBounds_toArray, List.set_cons_zero, List.set_cons_succ]
              refine take 31 _ rfl (by kernel_rfl) (by kernel_rfl) (by kernel_rfl) (fun _ _ _ h => h) (by rfl) hS (by intro w _; go_simp; with_reducible rfl) ?_
              try simp only [Act.put, List.setIfInBounds_toArray, List.set_cons_zero, List.set_cons_succ]
              refine take 32 _ rfl (by kernel_rfl) (by kernel_rfl) (by kernel_rfl) (fun _ _ _ h => h) (by rfl) hS (by intro w _; go_simp; with_reducible rfl) ?_
              try simp only [Act.put, List.setIfInBounds_toArray, List.set_cons_zero, List.set_cons_succ]
              refine ready_two 29 33 rfl rfl (by kernel_rfl) (by rfl) (by rfl) ?_ ?_
              · intro K hK
                go_simp
                refine HTT.out.mono ?_
                rintro e w4 ⟨rfl, rfl⟩
                go_simp
                refine hK.out _ _ hS ?_
                clear hK K
                try simp only [Act.put, List.setIfInBounds_toArray, List.set_cons_zero, List.set_cons_succ]
                refine alone 33 rfl (by kernel_rfl) (by rfl) ?_
                intro K hK
                go_simp
                refine hK.out _ _ hS ?_
                clear hK K
                try simp only [Act.put, List.setIfInBounds_toArray, List.set_cons_zero, List.set_cons_succ]
                refine take 34 _ rfl (by kernel_rfl) (by kernel_rfl) (by kernel_rfl) (fun _ _ _ h => h) (by rfl) hS (by intro w _; go_simp; with_reducible rfl) ?_
                try simp only [Act.put, List.setIfInBounds_toArray, List.set_cons_zero, List.set_cons_succ]
                refine take 35 _ rfl (by kernel_rfl) (by kernel_rfl) (by kernel_rfl) (fun _ _ _ h => h) (by rfl) hS (by intro w _; go_simp; with_reducible rfl) ?_
                try simp only [Act.put, List.setIfInBounds_toArray, List.set_cons_zero, List.set_cons_succ]
                refine region_end (by kernel_rfl) ?_
                go_wp2_with fail
                go_round
                case rel => exact ⟨k + 1, R', Y', l', t', by omega, by go_num, by omega, by omega, HC3.out, HB3.out⟩
                case measure => simp [intOf]; omega
              · intro K hK
                go_simp
                refine hK.out _ _ hS ?_
                clear hK K
                try simp only [Act.put, List.setIfInBounds_toArray, List.set_cons_zero, List.set_cons_succ]
                refine alone 29 rfl (by kernel_rfl) (by rfl) ?_
                intro K hK
                go_simp
                refine HTT.out.mono ?_
                rintro e w4 ⟨rfl, rfl⟩
                go_simp
                refine hK.out _ _ hS ?_
                clear hK K
                try simp only [Act.put, List.setIfInBounds_toArray, List.set_cons_zero, List.set_cons_succ]
                refine take 34 _ rfl (by kernel_rfl) (by kernel_rfl) (by kernel_rfl) (fun _ _ _ h => h) (by rfl) hS (by intro w _; go_simp; with_reducible rfl) ?_
                try simp only [Act.put, List.setIfInBounds_toArray, List.set_cons_zero, List.set_cons_succ]
                refine take 35 _ rfl (by kernel_rfl) (by kernel_rfl) (by kernel_rfl) (fun _ _ _ h => h) (by rfl) hS (by intro w _; go_simp; with_reducible rfl) ?_
                try simp only [Act.put, List.setIfInBounds_toArray, List.set_cons_zero, List.set_cons_succ]
                refine region_end (by kernel_rfl) ?_
                go_wp2_with fail
                go_round
                case rel => exact ⟨k + 1, R', Y', l', t', by omega, by go_num, by omega, by omega, HC3.out, HB3.out⟩
                case measure => simp [intOf]; omega
            · intro K hK
              go_simp
              refine hK.out _ _ hS ?_
              clear hK K
              try simp only [Act.put, List.setIfInBounds_toArray, List.set_cons_zero, List.set_cons_succ]
              refine take 24 _ rfl (by kernel_rfl) (by kernel_rfl) (by kernel_rfl) (fun _ _ _ h => h) (by rfl) hS (by intro w _; go_simp; with_reducible rfl) ?_
              try simp only [Act.put, List.setIfInBounds_toArray, List.set_cons_zero, List.set_cons_succ]
              refine alone 19 rfl (by kernel_rfl) (by rfl) ?_
              intro K hK
              go_simp
              refine HTA.out.mono ?_
              rintro e w3 ⟨rfl, hb3⟩
              have HC3 := Lib.hid (HC2.out.below hb3)
              have HB3 := Lib.hid (HB2.out.trans (hb3.mono HC2.out.base))
              have hS := HB3.out
              have HR6 := Lib.hid (HR5.out.below hb3)
              have c0 : w3.cell? ⟨x, 0, none⟩ = some (.slice A5 n5 c5) := by rw [← HN5.out]; exact HR6.out.obj.cell 0
              clear hb3 HTA
              go_simp
              refine hK.out _ _ hS ?_
              clear hK K
              try simp only [Act.put, List.setIfInBounds_toArray, List.set_cons_zero, List.set_cons_succ]
              have c2 : w3.cell? ⟨x, 2, none⟩ = some (.int .u64 (t' : Nat)) := HR6.out.obj.cell 2
              have HTT := Lib.hid (thrown_any HC3.out.yw)
              refine take 25 _ rfl (by kernel_rfl) (by kernel_rfl) (by kernel_rfl) (fun _ _ _ h => h) (by rfl) hS (by intro w _; go_simp; with_reducible rfl) ?_
              try simp only [Act.put, List.setIfInBounds_toArray, List.set_cons_zero, List.set_cons_succ]
              refine take 26 _ rfl (by kernel_rfl) (by kernel_rfl) (by kernel_rfl) (fun _ _ _ h => h) (by rfl) hS (by intro w _; go_simp; with_reducible rfl) ?_
              try simp only [Act.put, List.setIfInBounds_toArray, List.set_cons_zero, List.set_cons_succ]
              refine take 27 _ rfl (by kernel_rfl) (by kernel_rfl) (by kernel_rfl) (fun _ _ _ h => h) (by rfl) hS (by intro w _; go_simp; with_reducible rfl) ?_
              try simp only [Act.put, List.setIfInBounds_toArray, List.set_cons_zero, List.set_cons_succ]
              refine take 28 _ rfl (by kernel_rfl) (by kernel_rfl) (by kernel_rfl) (fun _ _ _ h => h) (by rfl) hS (by intro w _; go_simp; with_reducible rfl) ?_
              try simp only [Act.put, List.setIfInBounds_toArray, List.set_cons_zero, List.set_cons_succ]
              refine take 30 _ rfl (by kernel_rfl) (by kernel_rfl) (by kernel_rfl) (fun _ _ _ h => h) (by rfl) hS (by intro w _; go_simp; with_reducible rfl) ?_
              try simp only [Act.put, List.setIfInBounds_toArray, List.set_cons_zero, List.set_cons_succ]
              refine take 31 _ rfl (by kernel_rfl) (by kernel_rfl) (by kernel_rfl) (fun _ _ _ h => h) (by rfl) hS (by intro w _; go_simp; with_reducible rfl) ?_
              try simp only [Act.put, List.setIfInBounds_toArray, List.set_cons_zero, List.set_cons_succ]
              refine take 32 _ rfl (by kernel_rfl) (by kernel_rfl) (by kernel_rfl) (fun _ _ _ h => h) (by rfl) hS (by intro w _; go_simp; with_reducible rfl) ?_
              try simp only [Act.put, List.setIfInBounds_toArray, List.set_cons_zero, List.set_cons_succ]
              refine ready_two 29 33 rfl rfl (by kernel_rfl) (by rfl) (by rfl) ?_ ?_
              · intro K hK
                go_simp
                refine HTT.out.mono ?_
                rintro e w4 ⟨rfl, rfl⟩
                go_simp
                refine hK.out _ _ hS ?_
                clear hK K
                try simp only [Act.put, List.setIfInBounds_toArray, List.set_cons_zero, List.set_cons_succ]
                refine alone 33 rfl (by kernel_rfl) (by rfl) ?_
                intro K hK
                go_simp
                refine hK.out _ _ hS ?_
                clear hK K
                try simp only [Act.put, List.setIfInBounds_toArray, List.set_cons_zero, List.set_cons_succ]
                refine take 34 _ rfl (by kernel_rfl) (by kernel_rfl) (by kernel_rfl) (fun _ _ _ h => h) (by rfl) hS (by intro w _; go_simp; with_reducible rfl) ?_
                try simp only [Act.put, List.setIfInBounds_toArray, List.set_cons_zero, List.set_cons_succ]
                refine take 35 _ rfl (by kernel_rfl) (by kernel_rfl) (by kernel_rfl) (fun _ _ _ h => h) (by rfl) hS (by intro w _; go_simp; with_reducible rfl) ?_
                try simp only [Act.put, List.setIfInBounds_toArray, List.set_cons_zero, List.set_cons_succ]
                refine region_end (by kernel_rfl) ?_
                go_wp2_with fail
                go_round
                case rel => exact ⟨k + 1, R', Y', l', t', by omega, by go_num, by omega, by omega, HC3.out, HB3.out⟩
                case measure => simp [intOf]; omega
              · intro K hK
                go_simp
                refine hK.out _ _ hS ?_
                clear hK K
                try simp only [Act.put, List.setIfInBounds_toArray, List.set_cons_zero, List.set_cons_succ]
                refine alone 29 rfl (by kernel_rfl) (by rfl) ?_
                intro K hK
                go_simp
                refine HTT.out.mono ?_
                rintro e w4 ⟨rfl, rfl⟩
                go_simp
                refine hK.out _ _ hS ?_
                clear hK K
                try simp only [Act.put, List.setIfInBounds_toArray, List.set_cons_zero, List.set_cons_succ]
                refine take 34 _ rfl (by kernel_rfl) (by kernel_rfl) (by kernel_rfl) (fun _ _ _ h => h) (by rfl) hS (by intro w _; go_simp; with_reducible rfl) ?_
                try simp only [Act.put, List.setIfInBounds_toArray, List.set_cons_zero, List.set_cons_succ]
                refine take 35 _ rfl (by kernel_rfl) (by kernel_rfl) (by kernel_rfl) (fun _ _ _ h => h) (by rfl) hS (by intro w _; go_simp; with_reducible rfl) ?_
                try simp only [Act.put, List.setIfInBounds_toArray, List.set_cons_zero, List.set_cons_succ]
                refine region_end (by kernel_rfl) ?_
                go_wp2_with fail
                go_round
                case rel => exact ⟨k + 1, R', Y', l', t', by omega, by go_num, by omega, by omega, HC3.out, HB3.out⟩
                case measure => simp [intOf]; omega
    · have hnot : decide ((k : Int) < (N : Int)) = false ∨ ((k : Int) < (N : Int) ∧ decide ((k : Int) < 200) = false) := by
        by_cases h1 : k < N
        · exact Or.inr ⟨by omega, decide_eq_false (by omega)⟩
        · exact Or.inl (decide_eq_false (by omega))
      clear hlt
      rcases hnot with h1 | ⟨h0, h1⟩
      · have h2 : ¬ k < N := by have := of_decide_eq_false h1; omega
        go_wp2_with fail
        refine (HAL.out _).mono ?_
        rintro e w5 ⟨rfl, hb5⟩
        have H5 := Lib.hid (below_trans HB1.out hb5)
        clear hb5
        go_wp2_with fail
        go_ret
        exact ⟨rfl, H5.out⟩
      · have h2 : ¬ (k : Int) < 200 := of_decide_eq_false h1
        go_wp2_with fail
        refine (HAL.out _).mono ?_
        rintro e w5 ⟨rfl, hb5⟩
        have H5 := Lib.hid (below_trans HB1.out hb5)
        clear hb5
        go_wp2_with fail
        go_ret
        exact ⟨rfl, H5.out⟩

theorem walk (A : Option Addr) (n c : Nat) (own : Int) (w : World) (h : Shp.Good w (.list (.obj shOp)) [.slice A n c]) (ho : (Lit.int .i64 own).wf = true) : Calls Try.prog 3 #[.slice A n c, .int .i64 own] w fun e w' => e = .returned (.bool true) ∧ Below w.heap.size w w' := by
  obtain ⟨_, Q, hQ, hN⟩ := open_opsN h
  exact walk0 A n c Q own ho w hQ hN
end StagedLives
end Go.Proofs.Ytbmabfnjjflbnaa
