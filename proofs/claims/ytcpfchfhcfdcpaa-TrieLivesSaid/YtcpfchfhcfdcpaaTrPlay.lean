/- aditlaw14: ops of an argument; played. -/
import Derived.Test.YtcpfchfhcfdcpaaTrLaw
import Derived.Test.YtcpfchfhcfdcpaaTrAs
import Derived.Test.YtcpfchfhcfdcpaaSh
namespace Go.Proofs.Ytcpfchfhcfdcpaa
namespace Tri
open Go.ChangeShapes Go.WideShapes Go.ChangeAt Go.RowKit
open Num Mem Words Chacha Aead Poly Quiet Ops Adr

abbrev shA : Shp.Sh := .obj (.cons .bool (.cons (.row 16 (.int .u8)) .nil))
abbrev shP : Shp.Sh := .obj (.cons shA (.cons (.int .i64) .nil))
abbrev shO : Shp.Sh := .cons (.int .i64) (.cons shP (.cons (.int .i64) (.cons shA .nil)))
theorem good_addr {w : World} {cs : List Value} (h : Shp.Good w shA cs) (hl : cs.length = 17) : ∃ (s : Bool) (g : Nat → Nat), (∀ i, g i < 256) ∧ cs = addrL s g := by
  obtain ⟨h1, h2, _⟩ := h
  cases cs with
  | nil => simp at hl
  | cons v r =>
    obtain ⟨s, hs⟩ := h1
    have hv : v = .bool s := by simpa [Shp.Sh.size] using hs
    subst hv
    have hr : r.length = 16 := by simpa using hl
    have hk : ∀ i, i < 16 → ∃ z : Nat, z < 256 ∧ r[i]? = some (.int .u8 (z : Int)) := fun i hi => by
      obtain ⟨a, ha, hw⟩ := h2 i hi
      obtain ⟨z, rfl, hz⟩ := nat_u8 hw
      refine ⟨z, hz, ?_⟩
      simp only [Shp.Sh.size, Nat.mul_one, List.drop_succ_cons, List.drop_zero] at ha
      have : ((r.take 16).drop i).take 1 = [.int .u8 (z : Int)] := ha
      have e16 : r.take 16 = r := List.take_of_length_le (by omega)
      rw [e16] at this
      have h3 : ((r.drop i).take 1)[0]? = some (.int .u8 (z : Int)) := by rw [this]; rfl
      rw [List.getElem?_take_of_lt (by omega), List.getElem?_drop] at h3
      exact h3
    haveI : Inhabited Nat := ⟨0⟩
    obtain ⟨g, hg⟩ := Go.Deep.choose_lt (p := fun i (z : Nat) => z < 256 ∧ r[i]? = some (.int .u8 (z : Int))) hk
    refine ⟨s, fun i => if i < 16 then g i else 0, fun i => ?_, ?_⟩
    · dsimp only
      split
      · rename_i hi; exact (hg i hi).1
      · omega
    · unfold addrL
      congr 1
      refine List.ext_getElem? fun i => ?_
      rcases Nat.lt_or_ge i 16 with hi | hi
      · rw [(hg i hi).2]
        simp [byteCells, hi]
      · rw [List.getElem?_eq_none (by omega), List.getElem?_eq_none (by rw [byteCells_length]; exact hi)]
theorem okI_iff {z : Int} : okI z ↔ (Lit.int .i64 z).wf = true := Iff.rfl
theorem okI_bounds {z : Int} (h : okI z) : -9223372036854775808 ≤ z ∧ z ≤ 9223372036854775807 := by
  unfold okI at h
  simp [Lit.wf, IntKind.min, IntKind.max, IntKind.signed, IntKind.bits] at h
  omega
theorem good_pref {w : World} {cs : List Value} (h : Shp.Good w shP cs) (hl : cs.length = 18) : ∃ (s : Bool) (g : Nat → Nat) (z : Int), (∀ i, g i < 256) ∧ okI z ∧ cs = prefL s g z := by
  obtain ⟨h1, h2, _⟩ := h
  have e : shA.size = 17 := rfl
  rw [e] at h1 h2
  obtain ⟨s, g, hg, e1⟩ := good_addr h1 (by rw [List.length_take]; omega)
  obtain ⟨z, e2, hz⟩ := h2
  refine ⟨s, g, z, hg, hz, ?_⟩
  have e2 : (cs.drop 17).take 1 = [.int .i64 z] := e2
  rw [List.take_of_length_le (by rw [List.length_drop]; omega)] at e2
  rw [← List.take_append_drop 17 cs, e1, e2]
  rfl
theorem good_op {w : World} {cs : List Value} (h : Shp.Good w shO cs) (hl : cs.length = 37) : ∃ x : Opm, cs = x.cells ∧ x.Ok := by
  obtain ⟨h0, h1, h2, h3, _⟩ := h
  have eP : shP.size = 18 := rfl
  have eA : shA.size = 17 := rfl
  have e1 : (Shp.Sh.int IntKind.i64).size = 1 := rfl
  rw [e1] at h0 h1 h2 h3
  rw [eP] at h1 h2 h3
  rw [eA] at h3
  obtain ⟨k, ek, hk⟩ := h0
  obtain ⟨s, g, z, hg, hz, eg⟩ := good_pref h1 (by rw [List.length_take, List.length_drop]; omega)
  obtain ⟨o, eo, ho⟩ := h2
  obtain ⟨s2, g2, hg2, eg2⟩ := good_addr h3 (by rw [List.length_take, List.length_drop, List.length_drop, List.length_drop]; omega)
  refine ⟨⟨k, s, g, z, o, s2, g2⟩, ?_, ⟨hg, hg2, (okI_bounds hz).1, (okI_bounds hz).2, ho⟩⟩
  rw [List.take_of_length_le (by rw [List.length_drop, List.length_drop, List.length_drop]; omega)] at eg2
  show cs = .int .i64 k :: (prefL s g z ++ (.int .i64 o :: addrL s2 g2))
  rw [← List.take_append_drop 1 cs, ek, ← List.take_append_drop 18 (cs.drop 1), eg, ← List.take_append_drop 1 ((cs.drop 1).drop 18), eo, eg2]
  rfl
structure IsOps (w : World) (A : Option Addr) (n : Nat) (Q : Nat → Opm) : Prop where
  ok : ∀ i, i < n → (Q i).Ok
  rd : n = 0 ∨ ∃ b off, A = some ⟨b, off, none⟩ ∧ b < w.heap.size ∧ ∀ i, i < n → ∀ j v, (Q i).cells[j]? = some v → w.cell? ⟨b, off + (i * 37 + j), none⟩ = some v
theorem IsOps.below {w w' : World} {A : Option Addr} {n : Nat} {Q : Nat → Opm} (h : IsOps w A n Q) (hb : Below w.heap.size w w') : IsOps w' A n Q :=
  ⟨h.ok, h.rd.imp id fun ⟨b, off, e, hl, hc⟩ => ⟨b, off, e, Nat.lt_of_lt_of_le hl hb.size, fun i hi j v hj => (hb.cell (p := ⟨b, off + (i * 37 + j), none⟩) hl).trans (hc i hi j v hj)⟩⟩
theorem open_ops {w : World} {A : Option Addr} {n c : Nat} (h : Shp.Good w (.list (.obj shO)) [.slice A n c]) : n ≤ 9223372036854775807 ∧ ∃ Q, IsOps w A n Q := by
  obtain ⟨h1, h2, h3, C, hC, h4⟩ := Shp.list_rows h (by show 0 < 37; omega)
  haveI : Inhabited Opm := ⟨⟨0, false, nought, 0, 0, false, nought⟩⟩
  obtain ⟨Q, hQ⟩ := Go.Deep.choose_lt (p := fun i (q : Opm) => C i = q.cells ∧ q.Ok) (fun i hi => good_op (hC i hi).2 (hC i hi).1)
  refine ⟨by have : maxLen = 9223372036854775807 := rfl; omega, Q, fun i hi => (hQ i hi).2, ?_⟩
  rcases h4 with h0 | ⟨b, off, e, hlt, hx⟩
  · exact .inl h0
  · exact .inr ⟨b, off, e, hlt, fun i hi j v hv => hx i hi j v (by rw [(hQ i hi).1]; exact hv)⟩
theorem IsOps.range {w w' : World} {A : Option Addr} {n : Nat} {Q : Nat → Opm} (h : IsOps w A n Q) (hb : Below w.heap.size w w') {i : Nat} (hi : i < n) : ∃ b off, A = some ⟨b, off, none⟩ ∧ b < w.heap.size ∧ w'.rangeAt b (off + i * 37) (Q i).cells := by
  rcases h.2 with h0 | ⟨b, off, e, hlt, hx⟩
  · omega
  · refine ⟨b, off, e, hlt, fun j v hj => ?_⟩
    have := hx i hi j v hj
    rw [← this, Nat.add_assoc]
    exact hb.cell (p := ⟨b, off + (i * 37 + j), none⟩) hlt
def emT : Tm := ⟨.nil, .nil⟩
theorem em_fit : emT.Fit := ⟨trivial, trivial, by decide, fun x hx => by cases hx⟩
theorem em_w (w : World) : TrW w emT none := ⟨rfl, rfl⟩
/-- the trie behind the first ops -/
def playT (Q : Nat → Opm) (t : Tm) : Nat → Tm
  | 0 => t
  | k + 1 => doT (playT Q t k) (Q k)
theorem play_fit {Q : Nat → Opm} {t : Tm} (h : t.Fit) : ∀ {k : Nat}, (∀ i, i < k → (Q i).Ok) → (playT Q t k).Fit
  | 0, _ => h
  | k + 1, hq => fit_do (play_fit h fun i hi => hq i (Nat.lt_succ_of_lt hi)) (hq k (Nat.lt_succ_self k))
set_option maxRecDepth 100000 in
set_option maxHeartbeats 4000000 in
theorem played_any {w : World} {A : Option Addr} {n c : Nat} {Q : Nat → Opm} (h : IsOps w A n Q) (hn : n ≤ 9223372036854775807) : Calls Try.prog 19 #[.slice A n c] w fun e w' => ∃ q, e = .returned (ptrV q) ∧ TrW w' (playT Q emT (min n 80)) q ∧ Below w.heap.size w w' := by
  have HO := Lib.hid h
  have HFIT := Lib.hid (fun (k : Nat) (hk : k ≤ n) => play_fit (Q := Q) (k := k) em_fit (fun i hi => h.ok i (Nat.lt_of_lt_of_le hi hk)))
  have HDO := Lib.hid (fun (X : World) (t : Tm) (q : Option Nat) (x : Opm) (h1 : TrW X t q) (h2 : t.Fit) (h3 : x.Ok) => do_any h1 h2 h3)
  have HM := Lib.hid (show (∀ k, k ≤ n → k < 80 → ¬ k < n → min n 80 = k) ∧ (∀ k, k ≤ n → k ≤ 80 → ¬ k < 80 → min n 80 = k) from ⟨fun k h1 h2 h3 => by omega, fun k h1 h2 h3 => by omega⟩)
  clear h
  go_enter Try.func19, Try.ntmps19
  go_wp2_with fail
  go_loopw [3, 4] (fun t3 t4 X => ∃ (k : Nat) (q : Option Nat), k ≤ n ∧ k ≤ 80 ∧ t4 = .int .i64 k ∧ t3 = ptrV q ∧ TrW X (playT Q emT k) q ∧ Below w.heap.size w X) (fun _ i _ => 80 - (intOf i).toNat)
  case atStart => exact ⟨0, none, Nat.zero_le _, Nat.zero_le _, rfl, rfl, em_w _, Below.refl _ _⟩
  case round =>
    obtain ⟨k, q, hk, hk8, rfl, rfl, hT, hB⟩ := hrel
    have HT := Lib.hid hT
    have HB := Lib.hid hB
    clear hT hB
    by_cases hlt : k < n
    · by_cases h80 : k < 80
      · obtain ⟨b, off, rfl, hbl, hr⟩ := HO.out.range (i := k) (Below.refl _ _) hlt
        have HR := Lib.hid (range_below hr HB.out hbl)
        have HXL := Lib.hid (Q k).len
        have HC := Lib.hid (HDO.out wr (playT Q emT k) q (Q k) HT.out (HFIT.out k hk) (HO.out.ok k hlt))
        have HTS := Lib.hid (show playT Q emT (k + 1) = doT (playT Q emT k) (Q k) from rfl)
        obtain ⟨C, hC⟩ : ∃ C, (Q k).cells = C := ⟨_, rfl⟩
        rw [hC] at HR HXL HC
        clear hr hC hbl
        go_wp2_with (first
          | (refine wpList_load_mid rfl 31 (.tmp 19) rfl b (off + k * 37) (by go_simp) C _ HR.out rfl rfl (by rw [HXL.out]; kernel_rfl) ?_)
          | (go_at_call 8; refine HC.out.mono ?_; rintro e X2 ⟨q2, rfl, h2, hb2⟩; have HX2 := Lib.hid (show TrW X2 (playT Q emT (k + 1)) q2 ∧ Below w.heap.size w X2 from ⟨by rw [HTS.out]; exact h2, HB.out.trans (hb2.mono HB.out.size)⟩); clear h2 hb2))
        go_round
        case rel => exact ⟨k + 1, q2, by omega, by omega, by go_num, rfl, HX2.out.1, HX2.out.2⟩
        case measure => simp only [intOf]; omega
      · have he := HM.out.2 k hk hk8 h80
        have HE := Lib.hid he
        clear he
        go_wp2_with fail
        go_ret
        exact ⟨q, rfl, by rw [HE.out]; exact HT.out, HB.out⟩
    · by_cases h80 : k < 80
      · have HE := Lib.hid (HM.out.1 k hk h80 hlt)
        go_wp2_with fail
        go_ret
        exact ⟨q, rfl, by rw [HE.out]; exact HT.out, HB.out⟩
      · have HE := Lib.hid (HM.out.2 k hk hk8 h80)
        go_wp2_with fail
        go_ret
        exact ⟨q, rfl, by rw [HE.out]; exact HT.out, HB.out⟩
end Tri
end Go.Proofs.Ytcpfchfhcfdcpaa
