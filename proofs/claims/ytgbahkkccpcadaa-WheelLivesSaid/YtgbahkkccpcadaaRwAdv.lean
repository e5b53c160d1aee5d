/- The document's own wheel: Advance. -/
import Derived.Test.YtgbahkkccpcadaaRwClear
namespace Go.Proofs.Ytgbahkkccpcadaa
namespace Wh
open Go.ChangeShapes Go.WideShapes Go.ChangeAt Go.RowKit Go.Maps
open Num Mem Words Chacha Aead Poly Quiet RowV RowS Ops EqLits Stamp

theorem re_put' {w X Y : World} {G : Nat → Prop} {x m : Nat} {now now' : Int} {L M : List Tm} {A : Option Addr} {c : Nat} (hm : M.length = m) (h : RE w G x now L) (hb : Below w.heap.size w X) (hr : X.ownsRow w.heap.size 43 3 (.slice A m c) m (flatT M)) (hY : Whole Y x 31 #[.int .i64 now', .slice A m c]) (hk : Fk (fun i => i = x) X Y) : RE Y (ext G w) x now' M ∧ Fk G w Y := by
  subst hm
  exact re_put h hb hr hY hk
set_option maxRecDepth 100000 in
theorem radvance_bad {w : World} {G : Nat → Prop} {x : Nat} {now : Int} {L : List Tm} (h : RE w G x now L) (t : Int) (hbad : ¬ right t ∨ t < now) :
    Calls Try.prog 25 #[.pointer (some ⟨x, 0, none⟩), .int .i64 t] w fun e w' => e = .returned (.tuple #[.slice none 0 0, .int .i64 1]) ∧ w = w' := by
  obtain ⟨A, c, h⟩ := h
  have c0 : w.cell? ⟨x, 0, none⟩ = some (.int .i64 now) := h.obj.cell 0
  obtain ⟨b, hb⟩ : ∃ b, decide (right t) = b := ⟨_, rfl⟩
  have HRT := Lib.hid (rright_any t b (by rw [← hb]; exact decide_eq_true_iff) w)
  clear h
  cases b with
  | false =>
    clear hb hbad
    go_enter Try.func25, Try.ntmps25
    go_wp2_with fail
    refine HRT.out.mono ?_
    rintro e w1 ⟨rfl, rfl⟩
    go_wp2_with fail
    go_ret2
    exact ⟨rfl, rfl⟩
  | true =>
    have hr : right t := of_decide_eq_true hb
    have d1 : decide (t < now) = true := decide_eq_true (hbad.resolve_left (fun c => c hr))
    clear hb hbad
    go_enter Try.func25, Try.ntmps25
    go_wp2_with fail
    refine HRT.out.mono ?_
    rintro e w1 ⟨rfl, rfl⟩
    go_wp2_with fail
    go_ret2
    exact ⟨rfl, rfl⟩
set_option maxRecDepth 100000 in
set_option maxHeartbeats 2000000 in
theorem radvance_any {w : World} {G : Nat → Prop} {x : Nat} {now : Int} {L E R : List Tm} (h : RE w G x now L) (hL : L.length ≤ 1000) (t : Int) (ht : right t) (htn : now ≤ t) (hER : L = E ++ R) (hle : ∀ y ∈ E, y.t ≤ t) (hgt : ∀ y ∈ R, t < y.t) :
    Calls Try.prog 25 #[.pointer (some ⟨x, 0, none⟩), .int .i64 t] w fun e w' => ∃ A c, e = .returned (.tuple #[.slice A E.length c, .int .i64 0]) ∧ w'.ownsRow w.heap.size 43 3 (.slice A E.length c) E.length (flatT E) ∧ RE w' (ext G w) x t R ∧ Fk G w w' := by
  have HE := Lib.hid h
  obtain ⟨A, c, h⟩ := h
  obtain ⟨n, hn⟩ : ∃ n, L.length = n := ⟨_, rfl⟩
  obtain ⟨m, hm⟩ : ∃ m, E.length = m := ⟨_, rfl⟩
  have hmn : m ≤ n := by rw [← hn, ← hm, hER, List.length_append]; omega
  have htk : L.take m = E := by rw [hER, ← hm]; exact List.take_left
  have hdr : L.drop m = R := by rw [hER, ← hm]; exact List.drop_left
  have HTK := Lib.hid htk
  have HDR := Lib.hid hdr
  have HLE := Lib.hid hm
  have HLR := Lib.hid (show R.length = n - m from by rw [← hdr, List.length_drop, hn])
  have c0 : w.cell? ⟨x, 0, none⟩ = some (.int .i64 now) := h.obj.cell 0
  have c1 : w.cell? ⟨x, 1, none⟩ = some (.slice A n c) := by rw [← hn]; exact h.obj.cell 1
  have HC1 := Lib.hid (show ∀ V, Below w.heap.size w V → V.cell? ⟨x, 1, none⟩ = some (.slice A n c) from fun V hV => by
    rw [← hn]
    exact (h.obj.below hV h.obj.lt).cell 1)
  have HOB := Lib.hid h.obj
  have HR := Lib.hid (RdT.own h.row)
  have HB := Lib.hid (own_base h.row)
  have HTM := Lib.hid (show ∀ (j : Nat) (y : Tm), L[j]? = some y → (j < m → y.t ≤ t) ∧ (j = m → t < y.t) from fun j y hy => ⟨fun hj => by
    refine hle y ?_
    rw [← htk]
    exact List.mem_of_getElem? (by rw [List.getElem?_take, if_pos hj]; exact hy), fun hj => by
    refine hgt y ?_
    rw [← hdr]
    exact List.mem_of_getElem? (i := 0) (by rw [List.getElem?_drop, ← hj]; exact hy)⟩)
  have HN := Lib.hid hn
  have HRT := Lib.hid (rright_any t true (by simp [ht]) w)
  have d0 : decide (t < now) = false := decide_eq_false (by omega)
  rw [hn] at hL
  rw [hm]
  clear h hn hm hER hle hgt htk hdr
  go_enter Try.func25, Try.ntmps25
  go_wp2_with fail
  refine HRT.out.mono ?_
  rintro e w1 ⟨rfl, rfl⟩
  go_wp2_with fail
  go_loopw [6] (fun i X => ∃ j : Nat, j ≤ m ∧ i = .int .i64 j ∧ X = w) (fun i _ => m - (intOf i).toNat)
  case atStart => exact ⟨0, Nat.zero_le _, rfl, rfl⟩
  case round =>
    obtain ⟨j, hj, rfl, rfl⟩ := hrel
    by_cases hlt : j < n
    · have hjL : j < L.length := by rw [HN.out]; exact hlt
      have hy := List.getElem?_eq_getElem hjL
      generalize L[j] = y at hy
      obtain ⟨g, rfl, hgl, hrg⟩ := HR.out j y hy
      have cg2 : wr.cell? ⟨g, j * 3 + 2, none⟩ = some (.int .i64 y.t) := hrg 2 _ rfl
      obtain ⟨h1, h2⟩ := HTM.out j y hy
      rcases HB.out with ⟨e, _⟩ | ⟨g2, e, _, hnc, hcm, hrd⟩
      · cases e
      injection e with e
      injection e with e
      subst e
      clear hy hjL hrg
      by_cases hjm : j < m
      · have d1 : decide (y.t ≤ t) = true := decide_eq_true (h1 hjm)
        clear h1 h2 hnc hcm hrd hgl
        go_wp2_with fail
        go_round
        case rel => exact ⟨j + 1, by omega, by go_num, by first | rfl | trivial⟩
        case measure => simp only [intOf]; omega
      · have hjm2 : j = m := by omega
        subst hjm2
        have d1 : decide (y.t ≤ t) = false := decide_eq_false (by have := h2 rfl; omega)
        have HT := Lib.hid (by have := rdo_take (c := c) (i := j) hgl hrd; rwa [HTK.out] at this)
        have hcj : ¬ c = j := by rw [HN.out] at hnc; omega
        have HD := Lib.hid (show RdO wr (some ⟨g, j * 3, none⟩) (c - j) R from by
          have hd := rdo_drop (c := c) (cc := c - j) (j := j) hgl hnc hrd
          rw [HDR.out, if_neg hcj] at hd
          exact hd)
        have hmax : c ≤ 9223372036854775807 := by have : maxLen = 9223372036854775807 := rfl; omega
        rw [HN.out] at hnc
        have hjc : j ≤ c := by omega
        clear h1 h2 hcm hrd hgl
        go_wp2_with (at_builtin; first | (refine wpList_catR rfl _ _ rfl rfl rfl rfl HLE.out (⟨rfl, .inl ⟨rfl, rfl⟩⟩ : wr.ownsRow wr.heap.size 43 3 (.slice none ([] : List Tm).length 0) ([] : List Tm).length (flatT [])) HT.out (Nat.le_refl _) (by omega) ?_; intro A1 cc1 w1 q1 q2; have c2 := HC1.out w1 q2) | (refine wpList_catR rfl _ _ rfl rfl rfl rfl HLR.out (⟨rfl, .inl ⟨rfl, rfl⟩⟩ : w1.ownsRow w1.heap.size 43 3 (.slice none ([] : List Tm).length 0) ([] : List Tm).length (flatT [])) (HD.out.below q2) (Nat.le_refl _) (by omega) ?_; intro A2 cc2 w2 q3 q4; have hO := HOB.out.below (q2.trans (q4.mono q2.size)) HOB.out.lt; have c3 := hO.cell 1; have f3 := hO.free 1; have c4 := hO.cell 0; have f4 := hO.free 0))
        go_ret2
        rw [List.nil_append] at q1 q3
        have q5 := own_keep q1 q4
        have q6 := own_more' q3 q2.size
        rw [HLE.out] at q1 q5
        rw [HLR.out] at q6
        have hx5 : ∀ jj, (Value.slice A1 j cc1).ownBlock = some jj → ¬ jj = x := fun jj e c => by
          have := (own_lt' q1 jj e).1
          have := HOB.out.lt
          omega
        have hfk := (fk_set w2 x 1 (.slice A2 (n - j) cc2)).trans (fk_set _ x 0 (.int .i64 t)) (fun _ _ h => h)
        exact ⟨A1, cc1, rfl, own_fk' q5 hfk hx5, re_put' HLR.out HE.out (q2.trans (q4.mono q2.size)) q6 ((hO.put 1 _).put 0 _) hfk⟩
    · obtain rfl : j = n := by omega
      obtain rfl : m = j := by omega
      rcases HB.out with ⟨rfl, e, rfl⟩ | ⟨g, rfl, hgl, hnc, hcm, hrd⟩
      · have hn0 : m = 0 := by rw [← HN.out, e]; rfl
        subst hn0
        have HLR := Lib.hid (show R.length = 0 from by have := HLR.out; omega)
        have HT := Lib.hid (show RdO wr none 0 E from .inl ⟨rfl, List.eq_nil_of_length_eq_zero HLE.out, rfl⟩)
        have HD := Lib.hid (show RdO wr none 0 R from .inl ⟨rfl, List.eq_nil_of_length_eq_zero HLR.out, rfl⟩)
        go_wp2_with (at_builtin; first | (refine wpList_catR rfl _ _ rfl rfl rfl rfl HLE.out (⟨rfl, .inl ⟨rfl, rfl⟩⟩ : wr.ownsRow wr.heap.size 43 3 (.slice none ([] : List Tm).length 0) ([] : List Tm).length (flatT [])) HT.out (Nat.le_refl _) (by omega) ?_; intro A1 cc1 w1 q1 q2; have c2 := HC1.out w1 q2) | (refine wpList_catR rfl _ _ rfl rfl rfl rfl HLR.out (⟨rfl, .inl ⟨rfl, rfl⟩⟩ : w1.ownsRow w1.heap.size 43 3 (.slice none ([] : List Tm).length 0) ([] : List Tm).length (flatT [])) (HD.out.below q2) (Nat.le_refl _) (by omega) ?_; intro A2 cc2 w2 q3 q4; have hO := HOB.out.below (q2.trans (q4.mono q2.size)) HOB.out.lt; have c3 := hO.cell 1; have f3 := hO.free 1; have c4 := hO.cell 0; have f4 := hO.free 0))
        go_ret2
        rw [List.nil_append] at q1 q3
        have q5 := own_keep q1 q4
        have q6 := own_more' q3 q2.size
        rw [HLE.out] at q1 q5
        rw [HLR.out] at q6
        have hx5 : ∀ jj, (Value.slice A1 0 cc1).ownBlock = some jj → ¬ jj = x := fun jj e c => by
          have := (own_lt' q1 jj e).1
          have := HOB.out.lt
          omega
        have hfk := (fk_set w2 x 1 (.slice A2 (0) cc2)).trans (fk_set _ x 0 (.int .i64 t)) (fun _ _ h => h)
        exact ⟨A1, cc1, rfl, own_fk' q5 hfk hx5, re_put' HLR.out HE.out (q2.trans (q4.mono q2.size)) q6 ((hO.put 1 _).put 0 _) hfk⟩
      · have HLR := Lib.hid (show R.length = 0 from by have := HLR.out; omega)
        have HT := Lib.hid (by have := rdo_take (c := c) (i := m) hgl hrd; rwa [HTK.out] at this)
        obtain ⟨off, hA, hD⟩ : ∃ off, (if c = m then (some ⟨g, 0, none⟩ : Option Addr) else some ⟨g, m * 3, none⟩) = some ⟨g, off, none⟩ ∧ RdO wr (some ⟨g, off, none⟩) (c - m) R := by
          have hd := rdo_drop (c := c) (cc := c - m) (j := m) hgl hnc hrd
          rw [HDR.out] at hd
          by_cases e : c = m
          · exact ⟨0, by rw [if_pos e], by rw [if_pos e] at hd; exact hd⟩
          · exact ⟨m * 3, by rw [if_neg e], by rw [if_neg e] at hd; exact hd⟩
        have HD := Lib.hid hD
        have hmax : c ≤ 9223372036854775807 := by have : maxLen = 9223372036854775807 := rfl; omega
        rw [HN.out] at hnc
        clear hcm hrd hgl hD
        go_wp2_with (at_builtin; first | (refine wpList_catR rfl _ _ rfl rfl rfl rfl HLE.out (⟨rfl, .inl ⟨rfl, rfl⟩⟩ : wr.ownsRow wr.heap.size 43 3 (.slice none ([] : List Tm).length 0) ([] : List Tm).length (flatT [])) HT.out (Nat.le_refl _) (by omega) ?_; intro A1 cc1 w1 q1 q2; have c2 := HC1.out w1 q2) | (refine wpList_catR rfl _ _ rfl rfl rfl rfl HLR.out (⟨rfl, .inl ⟨rfl, rfl⟩⟩ : w1.ownsRow w1.heap.size 43 3 (.slice none ([] : List Tm).length 0) ([] : List Tm).length (flatT [])) (HD.out.below q2) (Nat.le_refl _) (by omega) ?_; intro A2 cc2 w2 q3 q4; have hO := HOB.out.below (q2.trans (q4.mono q2.size)) HOB.out.lt; have c3 := hO.cell 1; have f3 := hO.free 1; have c4 := hO.cell 0; have f4 := hO.free 0))
        go_ret2
        rw [List.nil_append] at q1 q3
        have q5 := own_keep q1 q4
        have q6 := own_more' q3 q2.size
        rw [HLE.out] at q1 q5
        rw [HLR.out] at q6
        have hx5 : ∀ jj, (Value.slice A1 m cc1).ownBlock = some jj → ¬ jj = x := fun jj e c => by
          have := (own_lt' q1 jj e).1
          have := HOB.out.lt
          omega
        have hfk := (fk_set w2 x 1 (.slice A2 (0) cc2)).trans (fk_set _ x 0 (.int .i64 t)) (fun _ _ h => h)
        exact ⟨A1, cc1, rfl, own_fk' q5 hfk hx5, re_put' HLR.out HE.out (q2.trans (q4.mono q2.size)) q6 ((hO.put 1 _).put 0 _) hfk⟩
end Wh
end Go.Proofs.Ytgbahkkccpcadaa
