/- Package trie: tries as lists of routes; what is there. -/
import Derived.Test.YtcpfchfhcfdcpaaTrGet
namespace Go.Proofs.Ytcpfchfhcfdcpaa
namespace Tri
open Num Mem Words Chacha Aead Poly Quiet Ops Adr

/-- the trie of a kind -/
def pickT (s : Bool) (ta tb : Tr) : Tr := if s then tb else ta
theorem isP_right {s : Bool} {g : Nat → Nat} {n : Nat} (hg : ∀ i, g i < 256) (hr : rightPB s g (n : Int) = true) {x : Rt} (hs : x.s = s) (hx : (x.p.length : Int) ≤ digitsI s) : isP s g (n : Int) x = true ↔ x.p = bs g n := by
  rw [isP_iff]
  have h1 := right_byt (s := s) hx
  have h2 := right_eq (byt_lt x.p) hg h1 hr
  rw [bs_byt] at h2
  exact ⟨fun h => h2.1 ⟨h.1.2, by omega⟩, fun h => ⟨⟨hs, (h2.2 h).1⟩, by have := (h2.2 h).2; omega⟩⟩
theorem mem_holdR {s : Bool} {f : Nat → Nat} {ta tb : Tr} {x : Rt} (h : x ∈ holdR s f ta tb) : rightB s f = true ∧ x.s = s ∧ (x.p, x.o) ∈ (pickT s ta tb).hold (bs f (digitsI s).toNat) := by
  unfold holdR subR at h
  by_cases hr : rightB s f = true
  · rw [if_pos hr] at h
    obtain ⟨y, hy, rfl⟩ := List.mem_map.1 h
    exact ⟨hr, rfl, hy⟩
  · rw [if_neg hr] at h; cases h
theorem holdR_mem {s : Bool} {f : Nat → Nat} {ta tb : Tr} (hr : rightB s f = true) {y : Bs × Int} (h : y ∈ (pickT s ta tb).hold (bs f (digitsI s).toNat)) : (⟨s, y.1, y.2⟩ : Rt) ∈ holdR s f ta tb := by
  unfold holdR subR
  rw [if_pos hr]
  exact List.mem_map.2 ⟨y, h, rfl⟩
theorem ok_pick {s : Bool} {ta tb : Tr} (oka : ta.Ok) (okb : tb.Ok) : (pickT s ta tb).Ok := by unfold pickT; cases s <;> assumption
theorem hold_len {t : Tr} (ht : t.Ok) {A : Bs} {y : Bs × Int} (h : y ∈ t.hold A) : y.1 <+: A ∧ y ∈ t.toL := by
  rw [hold_filter A ht] at h
  exact ⟨of_decide_eq_true (List.mem_filter.1 h).2, (List.mem_filter.1 h).1⟩
theorem bs_whole {g : Nat → Nat} {n m : Nat} (h : n ≤ m) : bs g n <+: bs g m := bs_pre.2 ⟨h, fun _ _ => rfl⟩
/-- Get: is it there, and whose? -/
theorem getB_iff {s : Bool} {g : Nat → Nat} {n : Nat} {ta tb : Tr} (oka : ta.Ok) (okb : tb.Ok) (hg : ∀ i, g i < 256) (hr : rightPB s g (n : Int) = true) : getB (holdR s g ta tb) s g n = true ↔ ∃ o, (bs g n, o) ∈ (pickT s ta tb).toL := by
  have hp := right_parts hr
  have hdig : 0 ≤ digitsI s := by unfold digitsI; split <;> decide
  have hpre : bs g n <+: bs g (digitsI s).toNat := bs_whole (by omega)
  unfold getB
  rw [List.find?_isSome]
  constructor
  · rintro ⟨x, hx, he⟩
    obtain ⟨_, hs, hm⟩ := mem_holdR hx
    have hl := hold_len (ok_pick oka okb) hm
    have hlen := hl.1.length_le
    rw [bs_length] at hlen
    have hxp : x.p = bs g n := (isP_right hg hr hs (by have : x.p.length ≤ (digitsI s).toNat := hlen; omega)).1 he
    exact ⟨x.o, hxp ▸ hl.2⟩
  · rintro ⟨o, ho⟩
    have hm := (get_hold (ok_pick oka okb) hpre o).2 ho
    refine ⟨_, holdR_mem hp.1 hm, (isP_right hg hr rfl ?_).2 rfl⟩
    show ((bs g n).length : Int) ≤ _
    rw [bs_length]
    exact hp.2.2.1
theorem getO_is {s : Bool} {g : Nat → Nat} {n : Nat} {ta tb : Tr} (oka : ta.Ok) (okb : tb.Ok) (hg : ∀ i, g i < 256) (hr : rightPB s g (n : Int) = true) {o : Int} (h : (bs g n, o) ∈ (pickT s ta tb).toL) : getO (holdR s g ta tb) s g n = o := by
  have hb := (getB_iff oka okb hg hr).2 ⟨o, h⟩
  unfold getB at hb
  unfold getO
  obtain ⟨x, hx⟩ := Option.isSome_iff_exists.1 hb
  rw [hx]
  show x.o = o
  have hxm := List.mem_of_find?_eq_some hx
  have he := List.find?_some hx
  obtain ⟨_, hs, hm⟩ := mem_holdR hxm
  have hl := hold_len (ok_pick oka okb) hm
  have hlen := hl.1.length_le
  rw [bs_length] at hlen
  have hp := right_parts hr
  have hdig : 0 ≤ digitsI s := by unfold digitsI; split <;> decide
  have hxp : x.p = bs g n := (isP_right hg hr hs (by have : x.p.length ≤ (digitsI s).toNat := hlen; omega)).1 he
  have := srt_key (toL_sorted (ok_pick oka okb)) hl.2 h hxp
  exact congrArg Prod.snd this
/-- a prefix that may not be is no route's -/
theorem getB_wrong {s : Bool} {g : Nat → Nat} {z : Int} {ta tb : Tr} (oka : ta.Ok) (okb : tb.Ok) (hr : rightPB s g z = false) : getB (holdR s g ta tb) s g z = false := by
  refine (get_none fun x hx => ?_).2
  cases he : isP s g z x with
  | false => rfl
  | true =>
    obtain ⟨hs, hz⟩ := isP_iff.1 he
    obtain ⟨hrb, hsx, hm⟩ := mem_holdR hx
    have hlen := (hold_len (ok_pick oka okb) hm).1.length_le
    rw [bs_length] at hlen
    have hdig : 0 ≤ digitsI s := by unfold digitsI; split <;> decide
    have hxl : x.p.length ≤ (digitsI s).toNat := hlen
    have h1 := right_byt (s := s) (p := x.p) (by omega)
    rw [rightPB_iff] at h1
    have h2 : rightPB s g z = true := by
      rw [rightPB_iff, ← hz]
      refine ⟨maskE_ok hrb (by omega) (by omega), fun i hi => ?_⟩
      have h3 := h1.2 i hi
      unfold maskF at h3 ⊢
      rw [← hs.2 i hi]
      exact h3
    rw [h2] at hr
    cases hr
end Tri
end Go.Proofs.Ytcpfchfhcfdcpaa
