/- 'aditlaw16.GaugeSorts' returns true at every input and writes nothing that was there: the walk. No condition. -/
import Derived.Test.YteombmahglbeeaaGgRefB
namespace Go.Proofs.Yteombmahglbeeaa
namespace GaugeSorts
open Go.ChangeShapes Go.WideShapes Go.ChangeAt Go.RowKit
open Num Mem Words Chacha Aead Poly Quiet Fl Gauge RowV RowA RowS GgSort

/-- a slice of measures, the nil one of no room -/
structure IsFltN (w : World) (a : Option Addr) (len cap : Nat) (l : List Nat) : Prop where
  is : IsFlts w a len l
  none : a = none → cap = 0 ∧ len = 0
section
variable {H : Type} {enc : TypeId × Value → H} {P : Program} {W : World} {base : Nat} {held : Bool}
theorem open_f64n {t e : TypeId} {a : Option Addr} {len cap : Nat} {d : DataW H} {p : List MemPlace} (ht : P.underlying t = some (.slice e)) (he : P.underlying e = some (.float .f64)) (hce : P.cellsOf e = 1)
    (h : DataW.Trod enc P W base (fun _ => true) held t (.slice a len cap) d p) : ∃ l, IsFltN W a len cap l := by
  obtain ⟨l, hl⟩ := open_f64s ht he hce h
  refine ⟨l, hl, fun ha => ?_⟩
  obtain ⟨fuel, hf⟩ := h
  rcases Deep.open_slice1 ht hce hf with ⟨hcs, _⟩ | ⟨x, l, c, m, n, V, D, Pl, hcs, _⟩
  · simp [Value.cells] at hcs
    exact ⟨hcs.2.2, hcs.2.1⟩
  · subst ha
    simp [Value.cells] at hcs
end
/-- append of whatever slice of measures to a row of one's own -/
theorem catN {P : Program} {ops : Array Oper} {rest : List Oper} {o : Oper} {a : Act} {Q : Exit → Act → World → Prop} {w : World} {B k c : Nat} {A : Option Addr} {xs : List Value} (hgd : o.guard = none) (s x : Operand) (t e : TypeId) (z : Value) (by_ : Nat)
    (ht : P.underlying t = some (.slice e)) (hinfo : (P.info? e).map (fun i => (i.zero, i.size, i.bytes)) = some (some z, 1, by_)) (hz : z.cells.size = 1)
    (ho : o.op = .call { callee := .builtin .append, args := #[s, x], argTypes := #[t, t] })
    (hs : a.eval s = .slice A k c) (own : w.ownsRow B e 1 (.slice A k c) k xs) (hB : B ≤ w.heap.size)
    (A2 : Option Addr) (m cx : Nat) (hx : a.eval x = .slice A2 m cx) (ys : List Value) (hl : ys.length = m) (hy : 0 < ys.length → ∃ ad, A2 = some ad ∧ ∀ j u, ys[j]? = some u → w.cell? (ad.add j) = some u) (hno : A2 = none → cx = 0 ∧ m = 0) (h1 : ∀ u ∈ ys, u.oneCell' = true) (hk : (k + m) * by_ ≤ 140737488355328) (hk2 : k + m ≤ 140737488355328)
    (h : ∀ A' c' w', w'.ownsRow B e 1 (.slice A' (k + m) c') (k + m) (xs ++ ys) → Below B w w' → wpList P ops Q rest (a.put o.dst (.slice A' (k + m) c')) w') :
    wpList P ops Q (o :: rest) a w := by
  rcases A2 with _ | ad
  · obtain ⟨rfl, rfl⟩ := hno rfl
    obtain rfl : ys = [] := List.eq_nil_of_length_eq_zero hl
    obtain ⟨i0, hi, _⟩ := info_parts hinfo
    refine wpList_append_own_none hgd s x t ho B e i0 1 ht hi (.slice A k c) k xs hs own hx ?_
    exact h A c w (by rw [List.append_nil]; exact own) (Below.refl _ _)
  · refine wpList_cat hgd s x t e z by_ ht hinfo hz ho hs own (Below.refl B w) hB ad m cx hx ys hl (fun j u hu => ?_) h1 hk hk2 (fun A' c' w' q1 q2 _ _ => h A' c' w' q1 q2)
    have h0 : 0 < ys.length := by
      rcases Nat.eq_zero_or_pos ys.length with h | h
      · rw [List.getElem?_eq_none (by omega)] at hu; cases hu
      · exact h
    obtain ⟨ad', e, hy⟩ := hy h0
    injection e with e
    subst e
    exact hy j u hu

set_option maxRecDepth 100000 in
theorem easy (A : Option Addr) (n c : Nat) (h : 200 < n) (w : World) :
    Calls Try.prog 3 #[.slice A n c] w fun e w' => e = .returned (.bool true) ∧ Below w.heap.size w w' := by
  have h2 : decide (200 < n) = true := decide_eq_true h
  go_enter Try.func3, Try.ntmps3
  go_wp2_with fail
  refine (alive_any _).mono ?_
  rintro e w1 ⟨rfl, hb⟩
  have KB := Lib.hid hb
  clear hb
  go_wp2_with fail
  go_ret
  exact ⟨rfl, KB.out⟩

set_option maxRecDepth 100000 in
set_option maxHeartbeats 8000000 in
theorem hard (A : Option Addr) (n c : Nat) (l : List Nat) (hl : Wd l) (hn : l.length = n) (hsz : n ≤ 200) (w : World) (hr : RdV w A (fc l)) (hno : A = none → c = 0 ∧ n = 0) :
    Calls Try.prog 3 #[.slice A n c] w fun e w' => e = .returned (.bool true) ∧ Below w.heap.size w w' := by
  have HR := Lib.hid hr
  have HN := Lib.hid hn
  have HL := Lib.hid hl
  have HNO := Lib.hid hno
  have hz2 : decide (200 < n) = false := decide_eq_false (by omega)
  have hmw : midV l < 18446744073709551616 := by
    unfold midV
    split
    · decide
    · exact (srt_srt (cnt l)).wd (wd_cnt hl) _ (mid_mem (by rw [(srt_srt (cnt l)).length]; omega))
  have CS := Lib.hid (fun W h => sort_srt A n c l hl hn hsz W h)
  have CM := Lib.hid (fun W h => middle_any A n c l hl hn hsz W h)
  have CR := Lib.hid (fun W h => rmiddle_any A n c l hl hn hsz W h)
  have CT := Lib.hid (fun W h => rsort_any A n c l hl hn hsz W h)
  have C2 := Lib.hid (rsame_any (midV l) (midV l) hmw hmw)
  rw [decide_eq_true rfl] at C2
  have hsl : (srt l).length = n := by rw [(srt_srt l).length]; exact hn
  have CE := Lib.hid (fun X Y d e W h k => rlists_any X Y n d e (srt l) ((srt_srt l).wd hl) hsl hsz W h k)
  have CL := Lib.hid (fun Y e W h k => rlists_any A Y n c e l hl hn hsz W h k)
  generalize midV l = V at *
  generalize midE l = E at *
  clear hr hn hl hno hmw hsl
  go_enter Try.func3, Try.ntmps3
  go_wp2_with (at_builtin; refine catN rfl _ _ 22 25 (.float .f64 0) 8 Try.underlying22 infoF rfl rfl rfl (World.ownsRow_made w #[] 0 (Nat.le_refl _) (Nat.zero_le _) rfl) (by simp) A n c rfl (fc l) (by rw [fc_length, HN.out]) (fun h0 => rdv_copy (HR.out.below (below_alloc (Below.refl _ _) _) (Nat.le_refl _)) (by rw [← fc_length]; exact h0)) HNO.out (fc_one l) (by omega) (by omega) ?_; intro A2 c2 w2 hown2 hb2)
  have hown3 : w2.ownsRow w.heap.size 25 1 (.slice A2 n c2) n (fc l) := by simpa using hown2
  have B2 := Lib.hid ((below_alloc (Below.refl w.heap.size w) (.cells #[] 25)).trans hb2)
  have R2 := Lib.hid (rdv_own hown3)
  have S2 := Lib.hid (HR.out.below B2.out (Nat.le_refl _))
  clear hown2 hown3 hb2 HR
  refine (CS.out _ S2.out).mono ?_
  rintro e w3 ⟨g, rfl, _, hg, hb⟩
  have R3 := Lib.hid (R2.out.below hb (Nat.le_refl _))
  have S3 := Lib.hid (S2.out.below hb (Nat.le_refl _))
  have B3 := Lib.hid (below_trans B2.out hb)
  have G3 := Lib.hid (rdv_whole hg)
  clear hg hb R2 S2 B2 CS
  go_wp2_with fail
  refine (CM.out _ S3.out).mono ?_
  rintro e w4 ⟨rfl, hb⟩
  have R4 := Lib.hid (R3.out.below hb (Nat.le_refl _))
  have S4 := Lib.hid (S3.out.below hb (Nat.le_refl _))
  have B4 := Lib.hid (below_trans B3.out hb)
  have G4 := Lib.hid (G3.out.below hb (Nat.le_refl _))
  clear hb R3 S3 B3 G3 CM
  go_wp2_with fail
  refine (CR.out _ S4.out).mono ?_
  rintro e w5 ⟨rfl, hb⟩
  have R5 := Lib.hid (R4.out.below hb (Nat.le_refl _))
  have S5 := Lib.hid (S4.out.below hb (Nat.le_refl _))
  have B5 := Lib.hid (below_trans B4.out hb)
  have G5 := Lib.hid (G4.out.below hb (Nat.le_refl _))
  clear hb R4 S4 B4 G4 CR
  go_wp2_with fail
  refine (alive_any _).mono ?_
  rintro e w6 ⟨rfl, hb⟩
  have R6 := Lib.hid (R5.out.below hb (Nat.le_refl _))
  have S6 := Lib.hid (S5.out.below hb (Nat.le_refl _))
  have B6 := Lib.hid (below_trans B5.out hb)
  have G6 := Lib.hid (G5.out.below hb (Nat.le_refl _))
  clear hb R5 S5 B5 G5
  go_wp2_with fail
  refine (CT.out _ S6.out).mono ?_
  rintro e w7 ⟨A7, c7, rfl, ho, hb⟩
  have R7 := Lib.hid (R6.out.below hb (Nat.le_refl _))
  have S7 := Lib.hid (S6.out.below hb (Nat.le_refl _))
  have B7 := Lib.hid (below_trans B6.out hb)
  have G7 := Lib.hid (G6.out.below hb (Nat.le_refl _))
  have O7 := Lib.hid (rdv_own ho)
  clear hb ho R6 S6 B6 G6 CT
  go_wp2_with fail
  refine (CE.out _ _ _ _ _ G7.out O7.out).mono ?_
  rintro e w8 ⟨rfl, hb⟩
  have R8 := Lib.hid (R7.out.below hb (Nat.le_refl _))
  have S8 := Lib.hid (S7.out.below hb (Nat.le_refl _))
  have B8 := Lib.hid (below_trans B7.out hb)
  clear hb R7 S7 B7 G7 O7 CE
  go_wp2_with fail
  refine (C2.out _).mono ?_
  rintro e w9 ⟨rfl, rfl⟩
  go_wp2_with fail
  refine (CL.out _ _ _ S8.out R8.out).mono ?_
  rintro e w9 ⟨rfl, hb⟩
  have B9 := Lib.hid (below_trans B8.out hb)
  clear hb
  go_wp2_with fail
  go_ret
  exact ⟨rfl, B9.out⟩

theorem walk (A : Option Addr) (n c : Nat) (l : List Nat) (w : World) (h0 : IsFltN w A n c l) :
    Calls Try.prog 3 #[.slice A n c] w fun e w' => e = .returned (.bool true) ∧ Below w.heap.size w w' := by
  obtain ⟨⟨hl, _, hb, hr⟩, hno⟩ := h0
  by_cases h : 200 < n
  · exact easy A n c h w
  · exact hard A n c l hb hl (by omega) w hr hno
end GaugeSorts
end Go.Proofs.Yteombmahglbeeaa
