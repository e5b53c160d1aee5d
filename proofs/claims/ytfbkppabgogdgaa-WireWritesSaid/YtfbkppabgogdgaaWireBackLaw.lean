/- The walk of the law WireBack. -/
import Derived.Test.YtfbkppabgogdgaaWireAlive
import Derived.Test.YtfbkppabgogdgaaWireWCookie
import Derived.Test.YtfbkppabgogdgaaWireWAnswer
import Derived.Test.YtfbkppabgogdgaaWireRCookie
import Derived.Test.YtfbkppabgogdgaaWireRData
import Derived.Test.YtfbkppabgogdgaaWireEq
import Derived.Test.YtfbkppabgogdgaaOps
namespace Go.Proofs.Ytfbkppabgogdgaa
namespace WireBack
open Go.ChangeShapes Go.WideShapes Go.ChangeAt Go.RowKit
open Num Mem Words Ref Cuts Chacha Quiet Wire

theorem le_out1 (k s : Nat) (hk : k < 4294967296) (g : Nat → Nat) : le (out1 k s g) 0 4 = k := by
  rw [le_congr (g := byteAt k) (q := 0) 4 (fun i hi => by unfold out1; rw [Nat.zero_add, if_pos hi]), le_byteAt k 4 (by omega)]
theorem le_out2 (k s r : Nat) (hk : k < 4294967296) (g : Nat → Nat) : le (out2 k s r g) 0 4 = k := by
  rw [le_congr (g := byteAt k) (q := 0) 4 (fun i hi => by unfold out2; rw [Nat.zero_add, if_pos hi]), le_byteAt k 4 (by omega)]
theorem le_outD (r q : Nat) (f : Nat → Nat) : le (outD r q f) 0 4 = 4 := by
  rw [le_congr (g := byteAt 4) (q := 0) 4 (fun i hi => by unfold outD; rw [Nat.zero_add, if_pos hi]), le_byteAt 4 4 (by omega)]
theorem num_out1 (k s : Nat) (hs : s < 4294967296) (g : Nat → Nat) : le (out1 k s g) 4 4 = s := by
  rw [le_congr (g := byteAt s) (q := 0) 4 (fun i hi => by unfold out1; rw [if_neg (by omega), if_pos (by omega)]; congr 1; omega), le_byteAt s 4 (by omega)]
theorem num_out2 (k s r : Nat) (hs : s < 4294967296) (g : Nat → Nat) : le (out2 k s r g) 4 4 = s := by
  rw [le_congr (g := byteAt s) (q := 0) 4 (fun i hi => by unfold out2; rw [if_neg (by omega), if_pos (by omega)]; congr 1; omega), le_byteAt s 4 (by omega)]
theorem num_out2b (k s r : Nat) (hr : r < 4294967296) (g : Nat → Nat) : le (out2 k s r g) 8 4 = r := by
  rw [le_congr (g := byteAt r) (q := 0) 4 (fun i hi => by unfold out2; rw [if_neg (by omega), if_neg (by omega), if_pos (by omega)]; congr 1; omega), le_byteAt r 4 (by omega)]
theorem num_outD (r q : Nat) (hr : r < 4294967296) (f : Nat → Nat) : le (outD r q f) 4 4 = r := by
  rw [le_congr (g := byteAt r) (q := 0) 4 (fun i hi => by unfold outD; rw [if_neg (by omega), if_pos (by omega)]; congr 1; omega), le_byteAt r 4 (by omega)]
theorem num_outDb (r q : Nat) (hq : q < 18446744073709551616) (f : Nat → Nat) : le (outD r q f) 8 8 = q := by
  rw [le_congr (g := byteAt q) (q := 0) 8 (fun i hi => by unfold outD; rw [if_neg (by omega), if_neg (by omega), if_pos (by omega)]; congr 1; omega), le_byteAt q 8 (by omega)]
theorem open_is {f : Nat → Nat} {n k : Nat} (hn : 4 ≤ n) (hl : le f 0 4 = k) (h1 : 1 ≤ k) (h4 : k ≤ 4) (hf : fitN k n = true) : openE f n k = 0 := by
  have h0 : kindE f n = 0 := by
    unfold kindE
    rw [if_neg (by omega), hl, if_neg (by omega), if_pos hf]
  unfold openE kindV
  rw [if_pos h0, if_pos h0, if_pos hl]
theorem back1 (k s n o : Nat) (hs : s < 4294967296) (g : Nat → Nat) (ho : o = 8) : one (le (out1 k s g) 4 4) (fun i => out1 k s g (o + i)) n = one s g n := by
  subst ho
  unfold one
  rw [num_out1 k s hs g, byteCells_congr (g := g) (fun i _ => by unfold out1; rw [if_neg (by omega), if_neg (by omega)]; congr 1; omega)]
theorem back2 (k s r n o : Nat) (hs : s < 4294967296) (hr : r < 4294967296) (g : Nat → Nat) (ho : o = 12) : two (le (out2 k s r g) 4 4) (le (out2 k s r g) 8 4) (fun i => out2 k s r g (o + i)) n = two s r g n := by
  subst ho
  unfold two
  rw [num_out2 k s r hs g, num_out2b k s r hr g, byteCells_congr (g := g) (fun i _ => by unfold out2; rw [if_neg (by omega), if_neg (by omega), if_neg (by omega)]; congr 1; omega)]
theorem kind_nil (f : Nat → Nat) : openE f 0 4 = 10 := by
  unfold openE kindE
  simp

theorem own_form {w : World} {B t n c : Nat} {A : Option Addr} {f : Nat → Nat} (h : Own w B t A n c f) (hn : 0 < n) : ∃ b, A = some ⟨b, 0, none⟩ ∧ B ≤ b ∧ b < w.heap.size ∧ n ≤ c ∧ c ≤ 9223372036854775807 := by
  rcases h.2 with ⟨_, h0⟩ | ⟨g, cap, cur, e, h1, h2, h3, h4, _⟩
  · omega
  · injection e with e1 _ e3
    subst e3
    refine ⟨g, e1, h1, ?_, h3, h4⟩
    rcases Nat.lt_or_ge g w.heap.size with k | k
    · exact k
    · rw [Array.getElem?_eq_none k] at h2
      cases h2
theorem fit_hello : fitN 1 148 = true := by decide
theorem fit_answer : fitN 2 92 = true := by decide
theorem fit_cookie : fitN 3 64 = true := by decide
theorem read_hello (s : Nat) (hs : s < 4294967296) (g : Nat → Nat) (hg : ∀ i, g i < 256) (B t c : Nat) (A : Option Addr) (w : World) (h : Own w B t A 148 c (out1 1 s g)) :
    Calls Try.prog 27 #[.slice A 148 c] w fun e w' => e = .returned (.tuple #[.agg (one s g 140).toArray, .int .i64 0]) ∧ Below w.heap.size w w' := by
  obtain ⟨b, rfl, _, hb, hnc, hcm⟩ := own_form h (by omega)
  have := readHello_ok b 0 148 c (out1 1 s g) (out1_lt hg) hnc hcm (open_is (by omega) (le_out1 1 s (by omega) g) (by omega) (by omega) fit_hello) w h.rd hb
  rwa [back1 1 s 140 8 hs g rfl] at this
theorem read_answer (s r : Nat) (hs : s < 4294967296) (hr : r < 4294967296) (g : Nat → Nat) (hg : ∀ i, g i < 256) (B t c : Nat) (A : Option Addr) (w : World) (h : Own w B t A 92 c (out2 2 s r g)) :
    Calls Try.prog 28 #[.slice A 92 c] w fun e w' => e = .returned (.tuple #[.agg (two s r g 80).toArray, .int .i64 0]) ∧ Below w.heap.size w w' := by
  obtain ⟨b, rfl, _, hb, hnc, hcm⟩ := own_form h (by omega)
  have := readAnswer_ok b 0 92 c (out2 2 s r g) (out2_lt hg) hnc hcm (open_is (by omega) (le_out2 2 s r (by omega) g) (by omega) (by omega) fit_answer) w h.rd hb
  rwa [back2 2 s r 80 12 hs hr g rfl] at this
theorem read_cookie (s : Nat) (hs : s < 4294967296) (g : Nat → Nat) (hg : ∀ i, g i < 256) (B t c : Nat) (A : Option Addr) (w : World) (h : Own w B t A 64 c (out1 3 s g)) :
    Calls Try.prog 29 #[.slice A 64 c] w fun e w' => e = .returned (.tuple #[.agg (one s g 56).toArray, .int .i64 0]) ∧ Below w.heap.size w w' := by
  obtain ⟨b, rfl, _, hb, hnc, hcm⟩ := own_form h (by omega)
  have := readCookie_ok b 0 64 c (out1 3 s g) (out1_lt hg) hnc hcm (open_is (by omega) (le_out1 3 s (by omega) g) (by omega) (by omega) fit_cookie) w h.rd hb
  rwa [back1 3 s 56 8 hs g rfl] at this
theorem box_fit {n : Nat} (h : boxN n = true) : fitN 4 (16 + n) = true := by
  unfold boxN at h
  unfold fitN
  simp at h
  simp
  omega
theorem read_data (x y : Nat) (hx : x < 4294967296) (hy : y < 18446744073709551616) (f : Nat → Nat) (hf : ∀ i, f i < 256) (B t n c : Nat) (hb : boxN n = true) (A : Option Addr) (w : World) (h : Own w B t A (16 + n) c (outD x y f)) :
    Calls Try.prog 30 #[.slice A ((16 + n : Nat) : Nat) c] w fun e w' => ∃ gm, e = .returned (.tuple #[.agg #[.int .u32 (x : Nat), .int .u64 (y : Nat), .slice (some ⟨gm, 0, none⟩) n n], .int .i64 0]) ∧ Whole w' gm 5 (byteCells f n).toArray ∧ w.heap.size ≤ gm ∧ Below w.heap.size w w' := by
  obtain ⟨b, rfl, _, hbl, hnc, hcm⟩ := own_form h (by omega)
  have := readData_ok b 0 (16 + n) c (outD x y f) (outD_lt hf) hnc hcm (open_is (by omega) (le_outD x y f) (by omega) (by omega) (box_fit hb)) w h.rd hbl
  rw [num_outD x y hx f, num_outDb x y hy f, show 16 + n - 16 = n by omega, byteCells_congr (g := f) (fun i _ => by unfold outD; rw [if_neg (by omega), if_neg (by omega), if_neg (by omega)]; congr 1; omega)] at this
  exact this
theorem read_none (w : World) : Calls Try.prog 30 #[.slice none 0 0] w fun e w' => e = .returned (.tuple #[.agg #[.int .u32 0, .int .u64 0, .slice none 0 0], .int .i64 10]) ∧ Below w.heap.size w w' := by
  have := readData_no none 0 0 (fun _ => 0) (fun _ => by omega) (by omega) (by rw [kind_nil]; omega) w (.inl rfl)
  rwa [kind_nil] at this

theorem wpList_call_if {P : Program} {ops : Array Oper} {rest : List Oper} {o : Oper} {a : Act} {w : World} {Q : Exit → Act → World → Prop} (hw : Region.wanted o (yielded ops a.tmps) = true) (v : Value) (f : FuncId) (args : Array Value)
    (hr : (execOp a.eval o).run P w = .ok (.enter f args) w) (R : World → Prop) (hc : Calls P f args w fun e w' => e = .returned v ∧ R w') (h : ∀ w', R w' → wpList P ops Q rest (a.put o.dst v) w') : wpList P ops Q (o :: rest) a w :=
  wpList_step fun _ hK => by
    rw [if_pos hw]
    unfold Oper.wp
    rw [hr, Oper.upon_enter]
    exact hc.mono (by rintro e w' ⟨rfl, h'⟩; exact hK _ _ (h w' h'))
/-- rows that lie whole -/
def Wh (X : World) (l : List (Nat × TypeId × Array Value)) : Prop := ∀ p ∈ l, Whole X p.1 p.2.1 p.2.2
theorem Wh.below {X Y : World} {l : List (Nat × TypeId × Array Value)} (h : Wh X l) (hb : Below X.heap.size X Y) : Wh Y l := fun p hp => (h p hp).below hb (h p hp).lt
theorem Wh.new {X : World} {l : List (Nat × TypeId × Array Value)} (h : Wh X l) (g : Nat) (t : TypeId) (a : Array Value) (hg : X.heap.size = g) : Wh (X.alloc (.cells a t)) ((g, t, a) :: l) := by
  intro p hp
  rcases List.mem_cons.1 hp with rfl | hp
  · exact whole_new _ _ hg
  · exact (h p hp).alloc _
theorem Wh.store {X : World} {l : List (Nat × TypeId × Array Value)} (h : Wh X l) (t : TypeId) (z a : Array Value) : Wh ((X.alloc (.cells z t)).setRow X.heap.size a) ((X.heap.size, t, a) :: l) := by
  intro p hp
  rcases List.mem_cons.1 hp with rfl | hp
  · exact setRow_heap _ _ _ _ _ _ (Whole.new _ _ _)
  · exact Whole.farRow (h := p.1) ((h p hp).alloc _) (Nat.ne_of_lt (h p hp).lt) _
theorem store_below {w X : World} (h : Below w.heap.size w X) (o : Obj) (a : Array Value) : Below w.heap.size w ((X.alloc o).setRow X.heap.size a) := below_setRow (below_alloc' h h.size o) h.size a

set_option maxRecDepth 100000 in
set_option maxHeartbeats 8000000 in
theorem walk (s0 : Nat) (g0 : Nat → Nat) (s1 r1 : Nat) (g1 : Nat → Nat) (s2 : Nat) (g2 : Nat → Nat) (x y : Nat) (A : Option Addr) (n c : Nat) (zs : List Int) (w : World)
    (hs0 : s0 < 4294967296) (hg0 : ∀ i, g0 i < 256) (hs1 : s1 < 4294967296) (hr1 : r1 < 4294967296) (hg1 : ∀ i, g1 i < 256) (hs2 : s2 < 4294967296) (hg2 : ∀ i, g2 i < 256) (hx : x < 4294967296) (hy : y < 18446744073709551616) (hrow : IsRow .u8 w A n c zs) :
    Calls Try.prog 5 #[.agg (one s0 g0 140).toArray, .agg (two s1 r1 g1 80).toArray, .agg (one s2 g2 56).toArray, .agg #[.int .u32 (x : Nat), .int .u64 (y : Nat), .slice A n c]] w fun e w' => e = .returned (.bool true) ∧ Below w.heap.size w w' := by
  obtain ⟨f, hf, hrd, hnc, hcm⟩ := rd_of_row hrow
  have CA := Lib.hid alive_any
  have CW0 := Lib.hid (writeHello_any s0 g0 hs0 hg0)
  have CW1 := Lib.hid (writeAnswer_any s1 r1 g1 hs1 hr1 hg1)
  have CW2 := Lib.hid (writeCookie_any s2 g2 hs2 hg2)
  have CR0 := Lib.hid (fun B c A w h => read_hello s0 hs0 g0 hg0 B 5 c A w h)
  have CR1 := Lib.hid (fun B c A w h => read_answer s1 r1 hs1 hr1 g1 hg1 B 5 c A w h)
  have CR2 := Lib.hid (fun B c A w h => read_cookie s2 hs2 g2 hg2 B 5 c A w h)
  have HE0 := Lib.hid (hello_eq s0 g0 hs0 hg0)
  have HE1 := Lib.hid (answer_eq s1 r1 g1 hs1 hr1 hg1)
  have HE2 := Lib.hid (cookie_eq s2 g2 hs2 hg2)
  have HF := Lib.hid hf
  have HRD := Lib.hid hrd
  have HX := Lib.hid hx
  have HY := Lib.hid hy
  obtain ⟨O0, hO0⟩ : ∃ O, out1 1 s0 g0 = O := ⟨_, rfl⟩
  obtain ⟨O1, hO1⟩ : ∃ O, out2 2 s1 r1 g1 = O := ⟨_, rfl⟩
  obtain ⟨O2, hO2⟩ : ∃ O, out1 3 s2 g2 = O := ⟨_, rfl⟩
  rw [hO0] at CW0 CR0
  rw [hO1] at CW1 CR1
  rw [hO2] at CW2 CR2
  obtain ⟨L0, hL0⟩ : ∃ L, one s0 g0 140 = L := ⟨_, rfl⟩
  have H0S := Lib.hid (show L0.length = 141 by rw [← hL0, one_length])
  have H0Z := Lib.hid (show L0.toArray.size = 141 by rw [List.size_toArray, H0S.out])
  have H01 := Lib.hid (show L0.toArray.all (·.oneCell') = true by rw [← hL0]; exact one_one _ _ _)
  rw [hL0] at CW0 CR0 HE0 ⊢
  obtain ⟨L1, hL1⟩ : ∃ L, two s1 r1 g1 80 = L := ⟨_, rfl⟩
  have H1S := Lib.hid (show L1.length = 82 by rw [← hL1, two_length])
  have H1Z := Lib.hid (show L1.toArray.size = 82 by rw [List.size_toArray, H1S.out])
  have H11 := Lib.hid (show L1.toArray.all (·.oneCell') = true by rw [← hL1]; exact two_one _ _ _ _)
  rw [hL1] at CW1 CR1 HE1 ⊢
  obtain ⟨L2, hL2⟩ : ∃ L, one s2 g2 56 = L := ⟨_, rfl⟩
  have H2S := Lib.hid (show L2.length = 57 by rw [← hL2, one_length])
  have H2Z := Lib.hid (show L2.toArray.size = 57 by rw [List.size_toArray, H2S.out])
  have H21 := Lib.hid (show L2.toArray.all (·.oneCell') = true by rw [← hL2]; exact one_one _ _ _)
  rw [hL2] at CW2 CR2 HE2 ⊢
  clear hO0 hO1 hO2 hL0 hL1 hL2 hs0 hg0 hs1 hr1 hg1 hs2 hg2 hx hy hf hrd hrow
  obtain ⟨A0, hA0⟩ : ∃ A0, L0.toArray = A0 := ⟨_, rfl⟩
  obtain ⟨A1, hA1⟩ : ∃ A1, L1.toArray = A1 := ⟨_, rfl⟩
  obtain ⟨A2, hA2⟩ : ∃ A2, L2.toArray = A2 := ⟨_, rfl⟩
  have HA0 := Lib.hid hA0
  have HA1 := Lib.hid hA1
  have HA2 := Lib.hid hA2
  rw [hA0, hA1, hA2]
  clear hA0 hA1 hA2
  go_enter Try.func5, Try.ntmps5
  go_upto_region 1 with fail
  refine cut_world (fun X => Wh X [(w.heap.size + 1 + 1 + 1, 38, #[.int .u32 (x : Nat), .int .u64 (y : Nat), .slice A n c]), (w.heap.size + 1 + 1, 34, L2.toArray), (w.heap.size + 1, 31, L1.toArray), (w.heap.size, 29, L0.toArray)] ∧ Below w.heap.size w X) ⟨?_, ?_⟩ ?_
  · rw [HA0.out, HA1.out, HA2.out]
    exact ((((show Wh w [] from fun p hp => by cases hp).new _ _ _ rfl).new _ _ _ (by simp)).new _ _ _ (by simp)).new _ _ _ (by simp)
  · exact below_alloc' (below_alloc' (below_alloc' (below_alloc (Below.refl _ _) _) (by simp) _) (by simp; omega) _) (by simp; omega) _
  rintro W ⟨kw, kb⟩
  have KB := Lib.hid kb
  have hl0 : w.heap.size + 1 + 1 + 1 < W.heap.size := (kw (_, _, _) (List.mem_cons_self ..)).lt
  generalize w.heap.size + 1 + 1 + 1 = B3 at kw hl0 ⊢
  generalize w.heap.size + 1 + 1 = B2 at kw ⊢
  generalize w.heap.size + 1 = B1 at kw ⊢
  generalize w.heap.size = B0 at kw ⊢
  have hc2 : W.cell? ⟨B3, 2, none⟩ = some (.slice A n c) := (kw _ (List.mem_cons_self ..)).cell 2
  have HW := Lib.hid kw
  clear kw kb
  by_cases h1 : 2000 < n
  · have d1 : decide ((2000 : Int) < (n : Int)) = true := decide_eq_true (by omega)
    go_wp2_with (go_at_call 13; refine (CA.out _).mono ?_; rintro e w1 ⟨rfl, hb⟩)
    go_ret
    exact ⟨rfl, below_trans KB.out hb⟩
  have d1 : decide ((2000 : Int) < (n : Int)) = false := decide_eq_false (by omega)
  have K0 := Lib.hid (HW.out (B0, 29, L0.toArray) (by simp))
  go_upto_region 4 with (first
    | (refine Poly.wpList_load_row_if (by rfl) 29 (.tmp 4) rfl B0 rfl 29 L0 _ K0.out rfl rfl (by rw [H0S.out]; kernel_rfl) ?_)
    | (go_at_call 18; refine (CW0.out _).mono ?_; rintro e w1 ⟨A', c', rfl, ho, hb1⟩; have HO := Lib.hid ho; have HB1 := Lib.hid hb1; clear ho hb1)
    | (go_at_call 27; refine (CR0.out _ _ _ _ HO.out).mono ?_; rintro e w2 ⟨rfl, hb2⟩; have HB2 := Lib.hid (below_trans HB1.out hb2); clear hb2)
    | (refine wpList_store_row rfl 29 (.tmp 9) (.tmp 28) rfl w2.heap.size L0.toArray rfl rfl 29 _ (Whole.new _ _ _) (by rw [H0Z.out]; kernel_rfl) (by rw [H0Z.out]; rfl) H01.out ?_))
  refine cut_world (fun X => Wh X [(w2.heap.size, 29, L0.toArray), (B3, 38, #[.int .u32 (x : Nat), .int .u64 (y : Nat), .slice A n c]), (B2, 34, L2.toArray), (B1, 31, L1.toArray), (B0, 29, L0.toArray)] ∧ Below w.heap.size w X) ⟨(HW.out.below HB2.out).store _ _ _, store_below (below_trans KB.out HB2.out) _ _⟩ ?_
  rintro Y0 ⟨yw, yb⟩
  clear KB HW K0 HB1 HB2 HO CW0 CR0
  have KB := Lib.hid yb
  generalize w2.heap.size = g0 at yw ⊢
  have HW := Lib.hid yw
  clear yw yb
  have K1 := Lib.hid (HW.out (B1, 31, L1.toArray) (by simp))
  go_upto_region 5 with (first
    | (refine Poly.wpList_load_row_if (by rfl) 31 (.tmp 5) rfl B1 rfl 31 L1 _ K1.out rfl rfl (by rw [H1S.out]; kernel_rfl) ?_)
    | (go_at_call 20; refine (CW1.out _).mono ?_; rintro e w1 ⟨A', c', rfl, ho, hb1⟩; have HO := Lib.hid ho; have HB1 := Lib.hid hb1; clear ho hb1)
    | (go_at_call 28; refine (CR1.out _ _ _ _ HO.out).mono ?_; rintro e w2 ⟨rfl, hb2⟩; have HB2 := Lib.hid (below_trans HB1.out hb2); clear hb2)
    | (refine wpList_store_row rfl 31 (.tmp 11) (.tmp 34) rfl w2.heap.size L1.toArray rfl rfl 31 _ (Whole.new _ _ _) (by rw [H1Z.out]; kernel_rfl) (by rw [H1Z.out]; rfl) H11.out ?_))
  refine cut_world (fun X => Wh X [(w2.heap.size, 31, L1.toArray), (g0, 29, L0.toArray), (B3, 38, #[.int .u32 (x : Nat), .int .u64 (y : Nat), .slice A n c]), (B2, 34, L2.toArray), (B1, 31, L1.toArray), (B0, 29, L0.toArray)] ∧ Below w.heap.size w X) ⟨(HW.out.below HB2.out).store _ _ _, store_below (below_trans KB.out HB2.out) _ _⟩ ?_
  rintro Y1 ⟨yw, yb⟩
  clear KB HW K1 HB1 HB2 HO CW1 CR1
  have KB := Lib.hid yb
  generalize w2.heap.size = g1 at yw ⊢
  have HW := Lib.hid yw
  clear yw yb
  have K2 := Lib.hid (HW.out (B2, 34, L2.toArray) (by simp))
  go_upto_region 6 with (first
    | (refine Poly.wpList_load_row_if (by rfl) 34 (.tmp 6) rfl B2 rfl 34 L2 _ K2.out rfl rfl (by rw [H2S.out]; kernel_rfl) ?_)
    | (go_at_call 22; refine (CW2.out _).mono ?_; rintro e w1 ⟨A', c', rfl, ho, hb1⟩; have HO := Lib.hid ho; have HB1 := Lib.hid hb1; clear ho hb1)
    | (go_at_call 29; refine (CR2.out _ _ _ _ HO.out).mono ?_; rintro e w2 ⟨rfl, hb2⟩; have HB2 := Lib.hid (below_trans HB1.out hb2); clear hb2)
    | (refine wpList_store_row rfl 34 (.tmp 13) (.tmp 40) rfl w2.heap.size L2.toArray rfl rfl 34 _ (Whole.new _ _ _) (by rw [H2Z.out]; kernel_rfl) (by rw [H2Z.out]; rfl) H21.out ?_))
  refine cut_world (fun X => Wh X [(w2.heap.size, 34, L2.toArray), (g1, 31, L1.toArray), (g0, 29, L0.toArray), (B3, 38, #[.int .u32 (x : Nat), .int .u64 (y : Nat), .slice A n c]), (B2, 34, L2.toArray), (B1, 31, L1.toArray), (B0, 29, L0.toArray)] ∧ Below w.heap.size w X) ⟨(HW.out.below HB2.out).store _ _ _, store_below (below_trans KB.out HB2.out) _ _⟩ ?_
  rintro Y2 ⟨yw, yb⟩
  clear KB HW K2 HB1 HB2 HO CW2 CR2
  have KB := Lib.hid yb
  generalize w2.heap.size = g2 at yw ⊢
  have HW := Lib.hid yw
  clear yw yb
  have K0 := Lib.hid (HW.out (B0, 29, L0.toArray) (by simp))
  have J0 := Lib.hid (HW.out (g0, 29, L0.toArray) (by simp))
  have K1 := Lib.hid (HW.out (B1, 31, L1.toArray) (by simp))
  have J1 := Lib.hid (HW.out (g1, 31, L1.toArray) (by simp))
  have K2 := Lib.hid (HW.out (B2, 34, L2.toArray) (by simp))
  have J2 := Lib.hid (HW.out (g2, 34, L2.toArray) (by simp))
  have K3 := Lib.hid (HW.out (B3, 38, #[.int .u32 (x : Nat), .int .u64 (y : Nat), .slice A n c]) (by simp))
  go_upto_region 6 with fail
  apply wp_region_lit
  refine Ops.wpList_value_if (by rfl) _ (by go_simp; try with_reducible rfl) ?_
  try simp only [Act.put, List.setIfInBounds_toArray, List.set_cons_zero, List.set_cons_succ]
  refine Ops.wpList_value_if (by rfl) _ (by go_simp; try with_reducible rfl) ?_
  try simp only [Act.put, List.setIfInBounds_toArray, List.set_cons_zero, List.set_cons_succ]
  refine Ops.wpList_value_if (by rfl) _ (by go_simp; try with_reducible rfl) ?_
  try simp only [Act.put, List.setIfInBounds_toArray, List.set_cons_zero, List.set_cons_succ]
  refine Ops.wpList_value_if (by rfl) _ (by go_simp; try with_reducible rfl) ?_
  try simp only [Act.put, List.setIfInBounds_toArray, List.set_cons_zero, List.set_cons_succ]
  refine Ops.wpList_value_if (by rfl) _ (by go_simp; try with_reducible rfl) ?_
  try simp only [Act.put, List.setIfInBounds_toArray, List.set_cons_zero, List.set_cons_succ]
  refine Ops.wpList_value_if (by rfl) _ (by go_simp; try with_reducible rfl) ?_
  try simp only [Act.put, List.setIfInBounds_toArray, List.set_cons_zero, List.set_cons_succ]
  refine Ops.wpList_value_if (by rfl) _ (by go_simp; try with_reducible rfl) ?_
  try simp only [Act.put, List.setIfInBounds_toArray, List.set_cons_zero, List.set_cons_succ]
  refine Ops.wpList_value_if (by rfl) _ (by go_simp; try with_reducible rfl) ?_
  try simp only [Act.put, List.setIfInBounds_toArray, List.set_cons_zero, List.set_cons_succ]
  refine Ops.wpList_value_if (by rfl) _ (by go_simp; try with_reducible rfl) ?_
  try simp only [Act.put, List.setIfInBounds_toArray, List.set_cons_zero, List.set_cons_succ]
  refine Ops.wpList_value_if (by rfl) _ (by go_simp; try with_reducible rfl) ?_
  try simp only [Act.put, List.setIfInBounds_toArray, List.set_cons_zero, List.set_cons_succ]
  refine Ops.wpList_value_if (by rfl) _ (by go_simp; try with_reducible rfl) ?_
  try simp only [Act.put, List.setIfInBounds_toArray, List.set_cons_zero, List.set_cons_succ]
  refine Poly.wpList_load_row_if (by rfl) 29 (.tmp 9) rfl g0 rfl 29 L0 _ J0.out rfl rfl (by rw [H0S.out]; kernel_rfl) ?_
  try simp only [Act.put, List.setIfInBounds_toArray, List.set_cons_zero, List.set_cons_succ]
  refine Poly.wpList_load_row_if (by rfl) 29 (.tmp 4) rfl B0 rfl 29 L0 _ K0.out rfl rfl (by rw [H0S.out]; kernel_rfl) ?_
  try simp only [Act.put, List.setIfInBounds_toArray, List.set_cons_zero, List.set_cons_succ]
  refine Ops.wpList_value_if (by rfl) (.bool false) (Ops.run_neq_op 29 (.tmp 53) (.tmp 54) _ rfl L0.toArray L0.toArray rfl rfl true false rfl (by kernel_rfl) HE0.out _) ?_
  try simp only [Act.put, List.setIfInBounds_toArray, List.set_cons_zero, List.set_cons_succ]
  refine Ops.wpList_value_if (by rfl) _ (by go_simp; try with_reducible rfl) ?_
  try simp only [Act.put, List.setIfInBounds_toArray, List.set_cons_zero, List.set_cons_succ]
  refine Ops.wpList_value_if (by rfl) _ (by go_simp; try with_reducible rfl) ?_
  try simp only [Act.put, List.setIfInBounds_toArray, List.set_cons_zero, List.set_cons_succ]
  refine Poly.wpList_load_row_if (by rfl) 31 (.tmp 11) rfl g1 rfl 31 L1 _ J1.out rfl rfl (by rw [H1S.out]; kernel_rfl) ?_
  try simp only [Act.put, List.setIfInBounds_toArray, List.set_cons_zero, List.set_cons_succ]
  refine Poly.wpList_load_row_if (by rfl) 31 (.tmp 5) rfl B1 rfl 31 L1 _ K1.out rfl rfl (by rw [H1S.out]; kernel_rfl) ?_
  try simp only [Act.put, List.setIfInBounds_toArray, List.set_cons_zero, List.set_cons_succ]
  refine Ops.wpList_value_if (by rfl) (.bool false) (Ops.run_neq_op 31 (.tmp 58) (.tmp 59) _ rfl L1.toArray L1.toArray rfl rfl true false rfl (by kernel_rfl) HE1.out _) ?_
  try simp only [Act.put, List.setIfInBounds_toArray, List.set_cons_zero, List.set_cons_succ]
  refine Ops.wpList_value_if (by rfl) _ (by go_simp; try with_reducible rfl) ?_
  try simp only [Act.put, List.setIfInBounds_toArray, List.set_cons_zero, List.set_cons_succ]
  refine Ops.wpList_value_if (by rfl) _ (by go_simp; try with_reducible rfl) ?_
  try simp only [Act.put, List.setIfInBounds_toArray, List.set_cons_zero, List.set_cons_succ]
  refine Poly.wpList_load_row_if (by rfl) 34 (.tmp 13) rfl g2 rfl 34 L2 _ J2.out rfl rfl (by rw [H2S.out]; kernel_rfl) ?_
  try simp only [Act.put, List.setIfInBounds_toArray, List.set_cons_zero, List.set_cons_succ]
  refine Poly.wpList_load_row_if (by rfl) 34 (.tmp 6) rfl B2 rfl 34 L2 _ K2.out rfl rfl (by rw [H2S.out]; kernel_rfl) ?_
  try simp only [Act.put, List.setIfInBounds_toArray, List.set_cons_zero, List.set_cons_succ]
  refine Ops.wpList_value_if (by rfl) (.bool false) (Ops.run_neq_op 34 (.tmp 63) (.tmp 64) _ rfl L2.toArray L2.toArray rfl rfl true false rfl (by kernel_rfl) HE2.out _) ?_
  try simp only [Act.put, List.setIfInBounds_toArray, List.set_cons_zero, List.set_cons_succ]
  refine Ops.wpList_value_if (by rfl) _ (by go_simp; try with_reducible rfl) ?_
  try simp only [Act.put, List.setIfInBounds_toArray, List.set_cons_zero, List.set_cons_succ]
  go_upto_region 8 with fail
  clear K0 K1 K2 J0 J1 J2 HE0 HE1 HE2 hc2
  cases hb : boxN n with
  | false =>
    have CW := Lib.hid (fun w => writeData_no (x : Nat) (y : Nat) A n c hb w)
    have CN := Lib.hid read_none
    go_upto_region 9 with (first
      | (refine Poly.wpList_load_row_if (by rfl) 38 (.tmp 7) rfl B3 rfl 38 [.int .u32 (x : Nat), .int .u64 (y : Nat), .slice A n c] _ K3.out rfl rfl (by kernel_rfl) ?_)
      | (go_at_call 14; refine (CW.out _).mono ?_; rintro e w1 ⟨rfl, hb1⟩; have HB1 := Lib.hid hb1; clear hb1))
    go_upto_region 10 with (first
      | (go_at_call 30; refine (CN.out _).mono ?_; rintro e w2 ⟨rfl, hb2⟩; have HB2 := Lib.hid (below_trans HB1.out hb2); clear hb2)
      | (refine wpList_store_row rfl 38 (.tmp 17) (.tmp 75) rfl w2.heap.size #[.int .u32 0, .int .u64 0, .slice none 0 0] rfl rfl 38 _ (Whole.new _ _ _) (by kernel_rfl) (by rfl) (data_one _ _ _ _ _) ?_))
    refine cut_world (fun X => Below w.heap.size w X) (store_below (below_trans KB.out HB2.out) _ _) ?_
    intro Z zb
    have ZB := Lib.hid zb
    clear zb HB1 HB2 KB HW K3
    go_wp2_with (go_at_call 13; refine (CA.out _).mono ?_; rintro e w3 ⟨rfl, hb3⟩)
    go_ret
    exact ⟨rfl, below_trans ZB.out hb3⟩
  | true =>
    have CW := Lib.hid (fun w hr => writeData_ok x y HX.out HY.out A n c f HF.out hnc hb w hr)
    have CN := Lib.hid (fun B c A w h => read_data x y HX.out HY.out f HF.out B 5 n c hb A w h)
    have HR := Lib.hid (HRD.out.below KB.out (Nat.le_refl _))
    obtain ⟨O, hO⟩ : ∃ O, outD x y f = O := ⟨_, rfl⟩
    rw [hO] at CW CN
    obtain ⟨ST, hST⟩ : ∃ ST, strOf f n = ST := ⟨_, rfl⟩
    have HST := Lib.hid hST
    clear hO hST
    go_upto_region 9 with (first
      | (refine Poly.wpList_load_row_if (by rfl) 38 (.tmp 7) rfl B3 rfl 38 [.int .u32 (x : Nat), .int .u64 (y : Nat), .slice A n c] _ K3.out rfl rfl (by kernel_rfl) ?_)
      | (go_at_call 14; refine (CW.out _ HR.out).mono ?_; rintro e w1 ⟨A', c', rfl, ho, hb1⟩; have HO := Lib.hid ho; have HB1 := Lib.hid hb1; clear ho hb1))
    go_upto_region 10 with (first
      | (go_at_call 30; refine (CN.out _ _ _ _ HO.out).mono ?_; rintro e w2 ⟨gm, rfl, hm, _, hb2⟩; have HM := Lib.hid hm; have HB2 := Lib.hid (below_trans HB1.out hb2); clear hm hb2)
      | (refine wpList_store_row rfl 38 (.tmp 17) (.tmp 75) rfl w2.heap.size #[.int .u32 (x : Nat), .int .u64 (y : Nat), .slice (some ⟨gm, 0, none⟩) n n] rfl rfl 38 _ (Whole.new _ _ _) (by kernel_rfl) (by rfl) (data_one _ _ _ _ _) ?_))
    refine cut_world (fun X => Wh X [(w2.heap.size, 38, #[.int .u32 (x : Nat), .int .u64 (y : Nat), .slice (some ⟨gm, 0, none⟩) n n]), (gm, 5, (byteCells f n).toArray), (B3, 38, #[.int .u32 (x : Nat), .int .u64 (y : Nat), .slice A n c])] ∧ Below w.heap.size w X ∧ Rd X A n f) ⟨?_, store_below (below_trans KB.out HB2.out) _ _, ?_⟩ ?_
    · refine Wh.store ?_ _ _ _
      intro p hp
      rcases List.mem_cons.1 hp with rfl | hp
      · exact HM.out
      · rw [List.mem_singleton] at hp
        subst hp
        exact K3.out.below HB2.out K3.out.lt
    · exact HRD.out.below (store_below (below_trans KB.out HB2.out) _ _) (Nat.le_refl _)
    rintro Z ⟨zw, zb, zr⟩
    clear HM HB1 HB2 HO HR KB HW K3 CW CN
    generalize w2.heap.size = h at zw ⊢
    have ZW := Lib.hid zw
    have ZB := Lib.hid zb
    have ZR := Lib.hid zr
    clear zw zb zr
    go_upto_region 12 with fail
    apply wp_region_lit
    refine wpList_call_if (by rfl) (.bool true) 13 #[] (by go_simp; try with_reducible rfl) (fun w' => Below Z.heap.size Z w') (CA.out _) ?_
    intro V hv
    have VW := Lib.hid (ZW.out.below hv)
    have VB := Lib.hid (below_trans ZB.out hv)
    have c0 : V.cell? ⟨h, 0, none⟩ = some (.int .u32 (x : Nat)) := (VW.out (h, 38, #[.int .u32 (x : Nat), .int .u64 (y : Nat), .slice (some ⟨gm, 0, none⟩) n n]) (by simp)).cell 0
    have e0 : V.cell? ⟨B3, 0, none⟩ = some (.int .u32 (x : Nat)) := (VW.out (B3, 38, #[.int .u32 (x : Nat), .int .u64 (y : Nat), .slice A n c]) (by simp)).cell 0
    have c1 : V.cell? ⟨h, 1, none⟩ = some (.int .u64 (y : Nat)) := (VW.out (h, 38, #[.int .u32 (x : Nat), .int .u64 (y : Nat), .slice (some ⟨gm, 0, none⟩) n n]) (by simp)).cell 1
    have e1 : V.cell? ⟨B3, 1, none⟩ = some (.int .u64 (y : Nat)) := (VW.out (B3, 38, #[.int .u32 (x : Nat), .int .u64 (y : Nat), .slice A n c]) (by simp)).cell 1
    have c2 : V.cell? ⟨h, 2, none⟩ = some (.slice (some ⟨gm, 0, none⟩) n n) := (VW.out (h, 38, #[.int .u32 (x : Nat), .int .u64 (y : Nat), .slice (some ⟨gm, 0, none⟩) n n]) (by simp)).cell 2
    have e2 : V.cell? ⟨B3, 2, none⟩ = some (.slice A n c) := (VW.out (B3, 38, #[.int .u32 (x : Nat), .int .u64 (y : Nat), .slice A n c]) (by simp)).cell 2
    have RS1 := Lib.hid (show ∀ (o : Oper) {a : Act} (ho : o.op = .convert 36 9 (.tmp 105)) (ha : a.eval (.tmp 105) = .slice (some ⟨gm, 0, none⟩) n n), (execOp a.eval o).run Try.prog V = .ok (.value (.string ST)) V from fun o {a} ho ha => by
      rw [← HST.out]
      exact run_string_op 36 9 5 (.tmp 105) ho ha Try.underlying36 Try.underlying5 Try.underlying9 (Rd.of_whole (VW.out (gm, 5, (byteCells f n).toArray) (by simp))))
    have RS2 := Lib.hid (show ∀ (o : Oper) {a : Act} (ho : o.op = .convert 36 9 (.tmp 108)) (ha : a.eval (.tmp 108) = .slice A n c), (execOp a.eval o).run Try.prog V = .ok (.value (.string ST)) V from fun o {a} ho ha => by
      rw [← HST.out]
      exact run_string_op 36 9 5 (.tmp 108) ho ha Try.underlying36 Try.underlying5 Try.underlying9 (ZR.out.below hv (Nat.le_refl _)))
    clear hv
    try simp only [Act.put, List.setIfInBounds_toArray, List.set_cons_zero, List.set_cons_succ]
    refine Ops.wpList_value_if (by rfl) _ (by go_simp; try with_reducible rfl) ?_
    try simp only [Act.put, List.setIfInBounds_toArray, List.set_cons_zero, List.set_cons_succ]
    refine Ops.wpList_value_if (by rfl) _ (by go_simp; try with_reducible rfl) ?_
    try simp only [Act.put, List.setIfInBounds_toArray, List.set_cons_zero, List.set_cons_succ]
    refine Ops.wpList_value_if (by rfl) (.bool true) (by go_simp; try with_reducible rfl) ?_
    try simp only [Act.put, List.setIfInBounds_toArray, List.set_cons_zero, List.set_cons_succ]
    refine Ops.wpList_value_if (by rfl) (.bool true) (by go_simp; try with_reducible rfl) ?_
    try simp only [Act.put, List.setIfInBounds_toArray, List.set_cons_zero, List.set_cons_succ]
    refine Ops.wpList_value_if (by rfl) _ (by go_simp; try with_reducible rfl) ?_
    try simp only [Act.put, List.setIfInBounds_toArray, List.set_cons_zero, List.set_cons_succ]
    refine Ops.wpList_value_if (by rfl) _ (by go_simp; try with_reducible rfl) ?_
    try simp only [Act.put, List.setIfInBounds_toArray, List.set_cons_zero, List.set_cons_succ]
    refine Ops.wpList_value_if (by rfl) _ (by go_simp; try with_reducible rfl) ?_
    try simp only [Act.put, List.setIfInBounds_toArray, List.set_cons_zero, List.set_cons_succ]
    refine Ops.wpList_value_if (by rfl) _ (by go_simp; try with_reducible rfl) ?_
    try simp only [Act.put, List.setIfInBounds_toArray, List.set_cons_zero, List.set_cons_succ]
    refine Ops.wpList_value_if (by rfl) _ (by go_simp; try with_reducible rfl) ?_
    try simp only [Act.put, List.setIfInBounds_toArray, List.set_cons_zero, List.set_cons_succ]
    refine Ops.wpList_value_if (by rfl) (.bool true) (by go_simp; try with_reducible rfl) ?_
    try simp only [Act.put, List.setIfInBounds_toArray, List.set_cons_zero, List.set_cons_succ]
    refine Ops.wpList_value_if (by rfl) (.bool true) (by go_simp; try with_reducible rfl) ?_
    try simp only [Act.put, List.setIfInBounds_toArray, List.set_cons_zero, List.set_cons_succ]
    refine Ops.wpList_value_if (by rfl) _ (by go_simp; try with_reducible rfl) ?_
    try simp only [Act.put, List.setIfInBounds_toArray, List.set_cons_zero, List.set_cons_succ]
    refine Ops.wpList_value_if (by rfl) _ (by go_simp; try with_reducible rfl) ?_
    try simp only [Act.put, List.setIfInBounds_toArray, List.set_cons_zero, List.set_cons_succ]
    refine Ops.wpList_value_if (by rfl) _ (by go_simp; try with_reducible rfl) ?_
    try simp only [Act.put, List.setIfInBounds_toArray, List.set_cons_zero, List.set_cons_succ]
    refine Ops.wpList_value_if (by rfl) _ (by go_simp; try with_reducible rfl) ?_
    try simp only [Act.put, List.setIfInBounds_toArray, List.set_cons_zero, List.set_cons_succ]
    refine Ops.wpList_value_if (by rfl) _ (by go_simp; try with_reducible rfl) ?_
    try simp only [Act.put, List.setIfInBounds_toArray, List.set_cons_zero, List.set_cons_succ]
    refine Ops.wpList_value_if (by rfl) (.bool true) (by go_simp; try with_reducible rfl) ?_
    try simp only [Act.put, List.setIfInBounds_toArray, List.set_cons_zero, List.set_cons_succ]
    refine Ops.wpList_value_if (by rfl) (.bool true) (by go_simp; try with_reducible rfl) ?_
    try simp only [Act.put, List.setIfInBounds_toArray, List.set_cons_zero, List.set_cons_succ]
    refine Ops.wpList_value_if (by rfl) _ (by go_simp; try with_reducible rfl) ?_
    try simp only [Act.put, List.setIfInBounds_toArray, List.set_cons_zero, List.set_cons_succ]
    refine Ops.wpList_value_if (by rfl) _ (by go_simp; try with_reducible rfl) ?_
    try simp only [Act.put, List.setIfInBounds_toArray, List.set_cons_zero, List.set_cons_succ]
    refine Ops.wpList_value_if (by rfl) _ (by go_simp; try with_reducible rfl) ?_
    try simp only [Act.put, List.setIfInBounds_toArray, List.set_cons_zero, List.set_cons_succ]
    refine Ops.wpList_value_if (by rfl) (.string ST) (RS1.out _ rfl rfl) ?_
    try simp only [Act.put, List.setIfInBounds_toArray, List.set_cons_zero, List.set_cons_succ]
    refine Ops.wpList_value_if (by rfl) _ (by go_simp; try with_reducible rfl) ?_
    try simp only [Act.put, List.setIfInBounds_toArray, List.set_cons_zero, List.set_cons_succ]
    refine Ops.wpList_value_if (by rfl) _ (by go_simp; try with_reducible rfl) ?_
    try simp only [Act.put, List.setIfInBounds_toArray, List.set_cons_zero, List.set_cons_succ]
    refine Ops.wpList_value_if (by rfl) (.string ST) (RS2.out _ rfl rfl) ?_
    try simp only [Act.put, List.setIfInBounds_toArray, List.set_cons_zero, List.set_cons_succ]
    refine Ops.wpList_value_if (by rfl) (.bool true) (by go_simp; try with_reducible rfl) ?_
    try simp only [Act.put, List.setIfInBounds_toArray, List.set_cons_zero, List.set_cons_succ]
    refine Ops.wpList_value_if (by rfl) (.bool true) (by go_simp; try with_reducible rfl) ?_
    try simp only [Act.put, List.setIfInBounds_toArray, List.set_cons_zero, List.set_cons_succ]
    refine Ops.wpList_value_if (by rfl) _ (by go_simp; try with_reducible rfl) ?_
    try simp only [Act.put, List.setIfInBounds_toArray, List.set_cons_zero, List.set_cons_succ]
    go_wp2_with fail
    go_ret
    exact ⟨rfl, VB.out⟩

end WireBack
end Go.Proofs.Ytfbkppabgogdgaa
