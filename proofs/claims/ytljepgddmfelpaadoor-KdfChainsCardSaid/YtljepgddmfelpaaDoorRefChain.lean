/- The document's own answers of layer 8 (package aditref08): Chain, of three links. -/
import Derived.Test.YtljepgddmfelpaaDoorRefMac
import Derived.Test.YtljepgddmfelpaaDoorKdfChain
namespace Go.Proofs.YtljepgddmfelpaaDoor
namespace RefK
open Go.ChangeShapes Go.WideShapes Go.ChangeAt Go.RowKit
open Num Mem Words State Blake Ref Chacha Quiet RefB Kdf

/-- the value of a link -/
def lval (p : Option Addr × Nat) : Value := .slice p.1 32 p.2
structure Links (w : World) (root : Nat → Nat) (j : Nat) (vs : List (Option Addr × Nat)) : Prop where
  len : vs.length = j
  rd : ∀ i p, vs[i]? = some p → Rd w p.1 32 (linkF root i)
theorem Links.below {w w' : World} {root : Nat → Nat} {j : Nat} {vs : List (Option Addr × Nat)} (h : Links w root j vs) (hb : Below w.heap.size w w') : Links w' root j vs :=
  ⟨h.len, fun i p e => (h.rd i p e).below hb (Nat.le_refl _)⟩
theorem Links.snoc {w : World} {root : Nat → Nat} {j : Nat} {vs : List (Option Addr × Nat)} (h : Links w root j vs) (A : Option Addr) (c : Nat) (hr : Rd w A 32 (linkF root j)) : Links w root (j + 1) (vs ++ [(A, c)]) := by
  refine ⟨by rw [List.length_append, h.len]; rfl, fun i p e => ?_⟩
  rcases Nat.lt_or_ge i vs.length with l | l
  · rw [List.getElem?_append_left l] at e
    exact h.rd i p e
  · rw [List.getElem?_append_right l] at e
    rcases Nat.eq_zero_or_pos (i - vs.length) with z | z
    · rw [z] at e
      cases e
      have := h.len
      rw [show i = j by omega]
      exact hr
    · rw [List.getElem?_eq_none (by simp; omega)] at e
      cases e
theorem owns_lower {w : World} {B B' e size n : Nat} {v : Value} {xs : List Value} (own : w.ownsRow B e size v n xs) (hB : B' ≤ B) : w.ownsRow B' e size v n xs := by
  refine ⟨own.1, ?_⟩
  rcases own.2 with k | ⟨b, cap, cur, e', hg, r⟩
  · exact .inl k
  · exact .inr ⟨b, cap, cur, e', Nat.le_trans hB hg, r⟩
/-- the text of link j, and its length -/
def textL (root : Nat → Nat) (j : Nat) : Nat → Nat := if j = 0 then fun _ => 1 else catF (linkF root (j - 1)) 32 fun _ => j + 1
def lenL (j : Nat) : Nat := if j = 0 then 0 else 32
theorem link_is (root : Nat → Nat) (j : Nat) : macF root 32 (textL root j) (lenL j + 1) = linkF root j := by
  rcases j with _ | j
  · rfl
  · rfl
theorem textL_lt (root : Nat → Nat) (j : Nat) (hj : j < 3) (i : Nat) : textL root j i < 256 := by
  unfold textL
  split
  · exact (show 1 < 256 by omega)
  · unfold catF
    split
    · exact linkF_lt _ _ _
    · exact (show j + 1 < 256 by omega)
theorem textL_at (root : Nat → Nat) (j : Nat) : ∀ i, i < lenL j + 1 → textL root j i = if i < lenL j then linkF root (j - 1) i else (fun _ => j + 1) (i - lenL j) := by
  intro i hi
  unfold textL lenL at *
  by_cases h : j = 0
  · rw [if_pos h] at *
    rw [if_pos h, if_neg (by omega), h]
  · rw [if_neg h] at *
    rw [if_neg h]
    rfl
/-- each link lies in another block than the row of links -/
def Off (vs : List (Option Addr × Nat)) (R : Option Addr) : Prop := ∀ p ∈ vs, ∀ a b, p.1 = some a → R = some b → a.block ≠ b.block
theorem rd_grown {X Y : World} {A R : Option Addr} {n j d : Nat} {f : Nat → Nat} (h : Rd X A n f) (hne : ∀ a b, A = some a → R = some b → a.block ≠ b.block) (g : X.grownBy Y (Value.slice R j d).ownBlock) : Rd Y A n f := by
  rcases h with h | ⟨b, o, rfl, hlt, hc⟩
  · exact .inl h
  · refine .inr ⟨b, o, rfl, Nat.lt_of_lt_of_le hlt g.size, fun i hi => ?_⟩
    rw [← hc i hi]
    simp only [World.cell?, g.block b hlt (by
      rcases R with _ | r
      · simp [Value.ownBlock]
      · simp [Value.ownBlock]
        exact hne _ _ rfl rfl)]
theorem rd_alloc {X : World} {A : Option Addr} {n : Nat} {f : Nat → Nat} (h : Rd X A n f) (o : Obj) : Rd (X.alloc o) A n f := h.below (below_alloc (Below.refl _ _) o) (Nat.le_refl _)
theorem rd_lt {X : World} {A : Option Addr} {n : Nat} {f : Nat → Nat} (h : Rd X A n f) (hn : 0 < n) (a : Addr) (e : A = some a) : a.block < X.heap.size := by
  rcases h with h | ⟨b, o, e2, hlt, _⟩
  · omega
  · rw [e] at e2
    cases e2
    exact hlt
/-- the row of links grows by one -/
theorem links_grown {X Y : World} {root : Nat → Nat} {j d d' : Nat} {vs : List (Option Addr × Nat)} {R R' : Option Addr} {o : Obj} {k : Nat} (h : Links X root k vs) (off : Off vs R) (g : (X.alloc o).grownBy Y (Value.slice R j d).ownBlock)
    (hat : (Value.slice R' (j + 1) d').ownBlock = (Value.slice R j d).ownBlock ∨ (Value.slice R' (j + 1) d').ownBlock = some (X.alloc o).heap.size) : Links Y root k vs ∧ Off vs R' := by
  refine ⟨⟨h.len, fun i p e => rd_grown (rd_alloc (h.rd i p e) o) (off p (List.mem_of_getElem? e)) g⟩, ?_⟩
  intro p hp a b ea eb
  rcases hat with hat | hat
  · rcases R with _ | r
    · rw [eb] at hat
      simp [Value.ownBlock] at hat
    · rw [eb] at hat
      simp [Value.ownBlock] at hat
      rw [hat]
      exact off p hp a r ea rfl
  · rw [eb] at hat
    simp [Value.ownBlock] at hat
    obtain ⟨i, hi⟩ := List.getElem?_of_mem hp
    have := rd_lt (h.rd i p hi) (by omega) a ea
    omega
/-- the last link of so many -/
def LastIs (vs : List (Option Addr × Nat)) (j : Nat) (v : Value) : Prop := (j = 0 ∧ v = .slice none 0 0) ∨ ∃ p, 0 < j ∧ vs[j - 1]? = some p ∧ v = lval p

theorem last_src {w : World} {root : Nat → Nat} {vs : List (Option Addr × Nat)} {j : Nat} {v : Value} (h : LastIs vs j v) (hk : Links w root j vs) : ∃ AL cl, v = .slice AL (lenL j) cl ∧ Src w AL (lenL j) cl (linkF root (j - 1)) := by
  rcases h with ⟨h0, rfl⟩ | ⟨p, h0, hp, rfl⟩
  · exact ⟨none, 0, by rw [h0]; rfl, by rw [h0]; exact .inl ⟨rfl, rfl, rfl⟩⟩
  · have e : lenL j = 32 := by unfold lenL; rw [if_neg (by omega)]
    rw [e]
    exact ⟨p.1, p.2, rfl, src_of_rd (hk.rd _ _ hp) (by omega)⟩

set_option maxRecDepth 100000 in
set_option maxHeartbeats 4000000 in
theorem chain_ref (A A2 : Option Addr) (c n c2 : Nat) (key f : Nat → Nat) (hkey : ∀ i, key i < 256) (hf : ∀ i, f i < 256) (hn : n ≤ 400000) (w : World) (hA : Rd w A 32 key) (hA2 : Src w A2 n c2 f) :
    Calls Tryd.prog 25 #[.slice A 32 c, .slice A2 n c2, .int .i64 3] w fun e w' => ∃ g d vs, e = .returned (.slice (some ⟨g, 0, none⟩) 3 d) ∧ w'.ownsRow w.heap.size 22 1 (.slice (some ⟨g, 0, none⟩) 3 d) 3 (vs.map lval) ∧ Links w' (macF key 32 f n) 3 vs ∧ Below w.heap.size w w' := by
  have HM := Lib.hid (mac_ref A A2 32 c n c2 key f hkey hf (by omega) hn w hA (src_of_rd hA (by omega)) hA2)
  have HR := Lib.hid (macF_lt key 32 f n)
  generalize macF key 32 f n = root at HM HR ⊢
  clear hA hA2 hkey hf
  go_enter Tryd.func25, Tryd.ntmps25
  go_wp2_with fail
  refine HM.out.mono ?_
  rintro e w1 ⟨A1, c1, rfl, hr1, hb1, _⟩
  have HR1 := Lib.hid hr1
  have HB1 := Lib.hid hb1
  have hszw := hb1.size
  clear hr1 hb1 HM
  obtain ⟨LK, hLK⟩ : ∃ LK : World → Nat → List (Option Addr × Nat) → Prop, LK = fun wr j vs => Links wr root j vs := ⟨_, rfl⟩
  go_wp2_with fail
  go_loopw [8, 9, 10] (fun o l i wr => ∃ (j : Nat) (R : Option Addr) (d : Nat) (vs : List (Option Addr × Nat)), j ≤ 3 ∧ i = .int .i64 (j + 1 : Nat) ∧ o = .slice R j d ∧ LastIs vs j l ∧ wr.ownsRow w1.heap.size 22 1 (.slice R j d) j (vs.map lval) ∧ LK wr j vs ∧ Off vs R ∧ Below w1.heap.size w1 wr) (fun _ _ i _ => 4 - (intOf i).toNat)
  case atStart => exact ⟨0, none, 0, [], Nat.zero_le _, rfl, rfl, .inl ⟨rfl, rfl⟩, World.ownsRow_nil _ _ _ _, by rw [hLK]; exact ⟨rfl, fun i p e => by simp at e⟩, (fun p hp => by cases hp), Below.refl _ _⟩
  case round =>
    obtain ⟨j, R, d, vs, hj, rfl, rfl, hlast, hown, hlk, hoff, hbel⟩ := hrel
    rw [hLK] at hlk
    have HO := Lib.hid hown
    have HK := Lib.hid hlk
    have HB := Lib.hid hbel
    have hsz := hbel.size
    have HOF := Lib.hid hoff
    clear hown hlk hoff hbel
    obtain ⟨q, hq⟩ : ∃ q, q = j + 1 := ⟨_, rfl⟩
    rw [← hq]
    by_cases hlt : j < 3
    · have i1 : (q : Int) ≤ 3 := by omega
      have HQ := Lib.hid hq
      have HT := Lib.hid (textL_at root j)
      have HTL := Lib.hid (textL_lt root j hlt)
      have HLI := Lib.hid (link_is root j)
      have HW := Lib.hid (show IntKind.u8.wrap (q : Int) = (q : Int) by rw [IntKind.wrap_u8]; omega)
      obtain ⟨AL, cl, rfl, hsl⟩ := last_src hlast HK.out
      have HSL := Lib.hid hsl
      clear hsl
      have hlen : lenL j ≤ 32 := by unfold lenL; split <;> omega
      have HT0 := Lib.hid (show ∀ i, i < 0 + lenL j → linkF root (j - 1) i = if i < 0 then (fun _ => 0) i else linkF root (j - 1) (i - 0) from fun i _ => by rw [if_neg (by omega), Nat.sub_zero])
      clear hlast hq
      have HBY := Lib.hid (show ((textL root j (lenL j) : Nat) : Int) = (q : Int) ∧ (q : Int) ≤ 3 by
        have := textL_at root j (lenL j) (by omega)
        rw [if_neg (by omega)] at this
        rw [this, HQ.out]
        exact ⟨rfl, by omega⟩)
      go_wp2_with (first
        | (at_builtin; refine wpList_catFrom rfl _ _ 22 5 (.int .u8 0) 1 Tryd.underlying22 info_u8 rfl rfl rfl (Own.nil wr wr.heap.size 5 (fun _ => 0)) (Below.refl wr.heap.size wr) (Nat.le_refl _) (lenL j) cl AL rfl HSL.out (by omega) (by omega) HT0.out ?_; intro A3 c3 w3 ho hb hsz3 _ _; rw [Nat.zero_add] at ho; rw [Nat.zero_add]; have HO3 := Lib.hid (Own.congr (g := textL root j) ho (fun i hi => by rw [HT.out i (by omega), if_pos hi])); have HB3 := Lib.hid hb; clear ho hb HSL)
        | (at_builtin; refine wpList_pushAt rfl _ _ rfl rfl rfl HO3.out HB3.out hsz3 (by have := HBY.out; omega) (by omega) ?_; intro A4 c4 w4 ho hb hsz4 _ _; have HO4 := Lib.hid ho; have HB4 := Lib.hid hb; clear ho hb HO3 HB3))
      refine (mac_ref A1 A4 32 c1 (lenL j + 1) c4 root (textL root j) HR.out HTL.out (by omega) (by omega) _ ((HR1.out.below HB.out (Nat.le_refl _)).below HB4.out (Nat.le_refl _)) (src_of_rd ((HR1.out.below HB.out (Nat.le_refl _)).below HB4.out (Nat.le_refl _)) (by omega)) (src_own HO4.out)).mono ?_
      rintro e w5 ⟨A5, c5, rfl, hr5, hb5, hfr5⟩
      rw [HLI.out] at hr5
      have hb5w := HB4.out.trans (hb5.mono hsz4)
      have hsz5 : w1.heap.size ≤ w5.heap.size := Nat.le_trans hsz hb5w.size
      have HO5 := Lib.hid (owns_below HO.out hb5w (Nat.le_refl _))
      have HK5 := Lib.hid (HK.out.below hb5w)
      have HB5 := Lib.hid (HB.out.trans (hb5w.mono hsz))
      have HR5 := Lib.hid hr5
      have HAP := Lib.hid (show ∀ a b, A5 = some a → R = some b → a.block ≠ b.block from fun a b ea eb => by
        have h1 := hfr5 a ea
        have h2 := World.ownsRow.lt HO.out b.block (by rw [eb]; rfl)
        omega)
      clear hr5 hb5 hfr5 hb5w HO4 HB4 HO HK HB
      have HSN := Lib.hid (HK5.out.snoc A5 c5 HR5.out)
      have HOS := Lib.hid (show Off (vs ++ [(A5, c5)]) R from fun p hp => by
        rcases List.mem_append.1 hp with h | h
        · exact HOF.out p h
        · rw [List.mem_singleton.1 h]
          exact HAP.out)
      have HEV := Lib.hid (show vs.map lval ++ [.slice A5 32 c5] = (vs ++ [(A5, c5)]).map lval by rw [List.map_append]; rfl)
      have HGT := Lib.hid (show (vs ++ [(A5, c5)])[j]? = some (A5, c5) by rw [List.getElem?_append_right (by rw [HK5.out.len]; exact Nat.le_refl _), HK5.out.len, Nat.sub_self]; rfl)
      go_wp2_with (first
        | (at_builtin; refine wpList_plain rfl fun K hK => wp_cat (W := w1) _ _ 30 22 (.slice none 0 0) 24 Tryd.underlying30 slice_info rfl rfl rfl (World.ownsRow.alloc HO5.out _) (HB5.out.alloc hsz5 _) (by simp; omega) ⟨w5.heap.size, 0, none⟩ 1 1 rfl [.slice A5 32 c5] rfl (one_at _ _ _) (by intro u hu; simp at hu; subst hu; rfl) (by omega) (by omega) fun A6 c6 w6 h1 h2 h3 h4 h5 => hK _ _ ?_; have HL6 := Lib.hid (links_grown HSN.out HOS.out h4 h5); rw [HEV.out] at h1; have HO6 := Lib.hid h1; have HB6 := Lib.hid h2; clear h1 h2 h4 h5))
      go_roundw
      case rel => exact ⟨j + 1, A6, c6, vs ++ [(A5, c5)], by omega, by rw [HQ.out]; go_num, rfl, .inr ⟨_, by omega, by rw [Nat.add_sub_cancel]; exact HGT.out, rfl⟩, HO6.out, by rw [hLK]; exact HL6.out.1, HL6.out.2, HB6.out⟩
      case measure => simp [intOf]; omega
    · obtain rfl : j = 3 := by omega
      obtain rfl : q = 4 := by omega
      obtain ⟨g, rfl, _, _⟩ := owns_some HO.out (by omega)
      go_wp2_with fail
      go_ret
      exact ⟨g, d, rfl, vs, owns_lower HO.out hszw, HK.out, HB1.out.trans (HB.out.mono hszw)⟩

end RefK
end Go.Proofs.YtljepgddmfelpaaDoor
