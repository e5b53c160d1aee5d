/- Write of the document's own answer for wire: a kind, numbers of four bytes, and the rest. -/
import Derived.Test.YtfbkppabgogdgaaWireJoin
import Derived.Test.YtfbkppabgogdgaaWireMsg
namespace Go.Proofs.Ytfbkppabgogdgaa
namespace RefW
open Go.ChangeShapes Go.WideShapes Go.ChangeAt Go.RowKit
open Num Mem Words Ref Cuts Chacha Quiet Wire

/-- the bytes that are written: a kind, m numbers, and the rest -/
def outN (k m : Nat) (vs : Nat → Nat) (g : Nat → Nat) (i : Nat) : Nat := if i < 4 then byteAt k i else if i < 4 + 4 * m then byteAt (vs ((i - 4) / 4)) ((i - 4) % 4) else g (i - (4 + 4 * m))
theorem outN_num (k m : Nat) (vs g : Nat → Nat) (j : Nat) (hj : j < m) (i : Nat) (hi : i < 4 + 4 * j + 4) : outN k m vs g i = if i < 4 + 4 * j then outN k m vs g i else byteAt (vs j) (i - (4 + 4 * j)) := by
  by_cases h : i < 4 + 4 * j
  · rw [if_pos h]
  · rw [if_neg h]
    unfold outN
    rw [if_neg (by omega), if_pos (by omega), show (i - 4) / 4 = j by omega, show (i - 4) % 4 = i - (4 + 4 * j) by omega]
theorem outN_rest (k m : Nat) (vs g : Nat → Nat) (n i : Nat) (_ : i < 4 + 4 * m + n) : outN k m vs g i = if i < 4 + 4 * m then outN k m vs g i else g (i - (4 + 4 * m)) := by
  by_cases h : i < 4 + 4 * m
  · rw [if_pos h]
  · rw [if_neg h]
    unfold outN
    rw [if_neg (by omega), if_neg h]
theorem outN_head (k m : Nat) (hk : k < 256) (vs g : Nat → Nat) : (#[Value.int .u8 (k : Nat), .int .u8 0, .int .u8 0, .int .u8 0] : Array Value).toList = byteCells (outN k m vs g) 4 := by
  have h0 : outN k m vs g 0 = k := by unfold outN byteAt; simp; omega
  have h1 : outN k m vs g 1 = 0 := by unfold outN byteAt; simp; omega
  have h2 : outN k m vs g 2 = 0 := by unfold outN byteAt; simp; omega
  have h3 : outN k m vs g 3 = 0 := by unfold outN byteAt; simp; omega
  show _ = [Value.int .u8 ((outN k m vs g 0 : Nat) : Int), .int .u8 ((outN k m vs g 1 : Nat) : Int), .int .u8 ((outN k m vs g 2 : Nat) : Int), .int .u8 ((outN k m vs g 3 : Nat) : Int)]
  rw [h0, h1, h2, h3]
  rfl

theorem src_keep {w X : World} {A : Option Addr} {m c : Nat} {g : Nat → Nat} (h : Src w A m c g) (hb : Below w.heap.size w X) : Src X A m c g := by
  rcases h with h | ⟨ad, e, hy⟩
  · exact .inl h
  · refine .inr ⟨ad, e, fun j v hj => ?_⟩
    have hc := hy j v hj
    have hlt : (ad.add j).block < w.heap.size := by
      rcases Nat.lt_or_ge (ad.add j).block w.heap.size with k | k
      · exact k
      · exfalso
        simp [World.cell?, Array.getElem?_eq_none k] at hc
    exact (hb.cell hlt).trans hc

set_option maxRecDepth 100000 in
set_option maxHeartbeats 4000000 in
theorem write_ref (k m : Nat) (hk : k < 256) (hm : m ≤ 2) (vs : Nat → Nat) (hv : ∀ i, vs i < 4294967296) (h : Nat) (A : Option Addr) (n c : Nat) (g : Nat → Nat) (hn : n ≤ 100000) (w : World) (hh : h < w.heap.size) (hc : ∀ i, i < m → w.cell? ⟨h, i, none⟩ = some (.int .u32 (vs i : Nat))) (hs : Src w A n c g) :
    Calls Try.prog 15 #[.int .u8 k, .slice (some ⟨h, 0, none⟩) m m, .slice A n c] w fun e w' => ∃ A' c', e = .returned (.slice A' (4 + 4 * m + n : Nat) c') ∧ Own w' w.heap.size 5 A' (4 + 4 * m + n) c' (outN k m vs g) ∧ Below w.heap.size w w' := by
  have HC := Lib.hid (fun (X : World) (hb : Below w.heap.size w X) (i : Nat) (hi : i < m) => (hb.cell (p := ⟨h, i, none⟩) hh).trans (hc i hi))
  have HS := Lib.hid hs
  have CB := Lib.hid (fun (i : Nat) (X : World) => bytes_any (vs i) 4 (by omega) (by have := hv i; omega) X)
  have HN := Lib.hid (outN_num k m vs g)
  have HE := Lib.hid (outN_rest k m vs g n)
  have HH := Lib.hid (outN_head k m hk vs g)
  generalize outN k m vs g = T at HN HE HH ⊢
  have HO := Lib.hid (show Own (w.alloc (.cells #[.int .u8 (k : Nat), .int .u8 0, .int .u8 0, .int .u8 0] 5)) w.heap.size 5 (some ⟨w.heap.size, 0, none⟩) 4 4 T from by
    unfold Own
    rw [← HH.out]
    exact World.ownsRow_lit w _ 4 (Nat.le_refl _) (by decide) rfl)
  have HB := Lib.hid (below_alloc (Below.refl w.heap.size w) (.cells #[.int .u8 (k : Nat), .int .u8 0, .int .u8 0, .int .u8 0] 5))
  clear hc hs
  go_enter Try.func15, Try.ntmps15
  go_upto_region 2 with fail
  refine cut_world (fun X => Own X w.heap.size 5 (some ⟨w.heap.size, 0, none⟩) 4 4 T ∧ Below w.heap.size w X) ⟨HO.out, HB.out⟩ ?_
  rintro X ⟨ho, hb⟩
  clear HO HB
  have HO := Lib.hid ho
  have HB := Lib.hid hb
  clear ho hb
  generalize hB : w.heap.size = B at HC HO HB hh ⊢
  have HBe := Lib.hid hB
  have hBs : ∀ X, Below B w X → B ≤ X.heap.size := fun X h => by have := h.size; omega
  go_wp2_with fail
  go_loopw [7, 8] (fun o i wr => ∃ (j : Nat) (A' : Option Addr) (c' : Nat), i = .int .i64 j ∧ o = .slice A' (4 + 4 * j : Nat) c' ∧ j ≤ m ∧ Own wr B 5 A' (4 + 4 * j) c' T ∧ Below B w wr) (fun _ i _ => m - (intOf i).toNat)
  case atStart => exact ⟨0, _, _, rfl, rfl, by omega, HO.out, HB.out⟩
  case round =>
    obtain ⟨j, A', c', rfl, rfl, hjm, ho, hb⟩ := hrel
    clear HO HB
    have HO := Lib.hid ho
    have HB := Lib.hid hb
    have hcj := fun hj => HC.out _ hb j hj
    clear ho hb
    by_cases hj : j < m
    · have dj : decide ((j : Int) < (m : Int)) = true := decide_eq_true (by omega)
      have hcell := hcj hj
      have CJ := Lib.hid (CB.out j)
      have HNj := Lib.hid (HN.out j hj)
      clear hcj
      have hx := hv j
      generalize vs j = x at hcell CJ HNj hx
      go_wp2_with fail
      refine (CJ.out _).mono ?_
      rintro e w3 ⟨A3, c3, rfl, ho3, hb3⟩
      have ho4 : Own w3 B 5 A' (4 + 4 * j) c' T := HO.out.below hb3 (Nat.le_refl _)
      have HO3 := Lib.hid ho4
      have hb4 : Below B w w3 := HB.out.trans (hb3.mono (hBs wr HB.out))
      have HB3 := Lib.hid hb4
      have hs3 : B ≤ w3.heap.size := Nat.le_trans (hBs wr HB.out) hb3.size
      have hs4 : Src w3 A3 4 c3 (byteAt x) := src_own ho3
      have HS3 := Lib.hid hs4
      clear ho3 hb3 ho4 hb4 hs4
      go_wp2_with (at_builtin; refine wpList_catFrom (T := T) rfl (.tmp 17) (.tmp 23) 36 5 (.int .u8 0) 1 Try.underlying36 info_u8 rfl rfl rfl HO3.out HB3.out hs3 4 c3 A3 rfl HS3.out (by omega) (by omega) HNj.out ?_; intro A5 c5 w5 h1 h2 h3 _ _; have HO5 := Lib.hid h1; have HB5 := Lib.hid h2; clear h1 h2 h3)
      go_roundw
      case rel => exact ⟨j + 1, A5, c5, by go_num, rfl, by omega, HO5.out, HB5.out⟩
      case measure => simp [intOf]; omega
    · obtain rfl : j = m := by omega
      have dj : decide ((j : Int) < (j : Int)) = false := decide_eq_false (by omega)
      have hszB : B ≤ wr.heap.size := by have := HB.out.size; omega
      have hsw : Src wr A n c g := src_keep HS.out (by rw [HBe.out]; exact HB.out)
      have HSW := Lib.hid hsw
      clear hsw
      go_wp2_with (at_builtin; refine wpList_catFrom (T := T) rfl (.tmp 25) (.tmp 26) 36 5 (.int .u8 0) 1 Try.underlying36 info_u8 rfl rfl rfl HO.out HB.out hszB n c A rfl HSW.out (by omega) (by omega) HE.out ?_; intro A5 c5 w5 h1 h2 h3 _ _; have HO5 := Lib.hid h1; have HB5 := Lib.hid h2; clear h1 h2 h3)
      go_ret
      exact ⟨A5, c5, rfl, by rw [HBe.out]; exact HO5.out, by rw [HBe.out]; exact HB5.out⟩

theorem outN_one (k s : Nat) (g : Nat → Nat) : outN k 1 (fun _ => s) g = out1 k s g := by
  funext i
  unfold outN out1
  by_cases h : i < 4
  · rw [if_pos h, if_pos h]
  · rw [if_neg h, if_neg h]
    by_cases h8 : i < 8
    · rw [if_pos (by omega), if_pos h8, show (i - 4) % 4 = i - 4 by omega]
    · rw [if_neg (by omega), if_neg h8]
theorem outN_two (k s r : Nat) (g : Nat → Nat) : outN k 2 (fun i => if i = 0 then s else r) g = out2 k s r g := by
  funext i
  unfold outN out2
  by_cases h : i < 4
  · rw [if_pos h, if_pos h]
  · rw [if_neg h, if_neg h]
    by_cases h8 : i < 8
    · rw [if_pos (by omega), if_pos h8]
      show byteAt (if (i - 4) / 4 = 0 then s else r) ((i - 4) % 4) = _
      rw [if_pos (by omega), show (i - 4) % 4 = i - 4 by omega]
    · rw [if_neg h8]
      by_cases h12 : i < 12
      · rw [if_pos (by omega), if_pos h12]
        show byteAt (if (i - 4) / 4 = 0 then s else r) ((i - 4) % 4) = _
        rw [if_neg (by omega), show (i - 4) % 4 = i - 8 by omega]
      · rw [if_neg (by omega), if_neg h12]
theorem write_ref1 (k : Nat) (hk : k < 256) (s : Nat) (hs : s < 4294967296) (h : Nat) (A : Option Addr) (n c : Nat) (g : Nat → Nat) (hn : n ≤ 100000) (w : World) (hh : h < w.heap.size) (hc : w.cell? ⟨h, 0, none⟩ = some (.int .u32 (s : Nat))) (hsrc : Src w A n c g) :
    Calls Try.prog 15 #[.int .u8 k, .slice (some ⟨h, 0, none⟩) 1 1, .slice A n c] w fun e w' => ∃ A' c', e = .returned (.slice A' (8 + n : Nat) c') ∧ Own w' w.heap.size 5 A' (8 + n) c' (out1 k s g) ∧ Below w.heap.size w w' := by
  have := write_ref k 1 hk (by omega) (fun _ => s) (fun _ => hs) h A n c g hn w hh (fun i hi => by rw [show i = 0 by omega]; exact hc) hsrc
  rw [outN_one] at this
  exact this
theorem write_ref2 (k : Nat) (hk : k < 256) (s r : Nat) (hs : s < 4294967296) (hr : r < 4294967296) (h : Nat) (A : Option Addr) (n c : Nat) (g : Nat → Nat) (hn : n ≤ 100000) (w : World) (hh : h < w.heap.size) (hc : w.cell? ⟨h, 0, none⟩ = some (.int .u32 (s : Nat))) (hd : w.cell? ⟨h, 1, none⟩ = some (.int .u32 (r : Nat))) (hsrc : Src w A n c g) :
    Calls Try.prog 15 #[.int .u8 k, .slice (some ⟨h, 0, none⟩) 2 2, .slice A n c] w fun e w' => ∃ A' c', e = .returned (.slice A' (12 + n : Nat) c') ∧ Own w' w.heap.size 5 A' (12 + n) c' (out2 k s r g) ∧ Below w.heap.size w w' := by
  have := write_ref k 2 hk (by omega) (fun i => if i = 0 then s else r) (fun i => by show (if i = 0 then s else r) < _; split <;> assumption) h A n c g hn w hh (fun i hi => by
    rcases Nat.eq_zero_or_pos i with h0 | h0
    · rw [h0]
      exact hc
    · rw [show i = 1 by omega]
      exact hd) hsrc
  rw [outN_two] at this
  exact this

end RefW
end Go.Proofs.Ytfbkppabgogdgaa
