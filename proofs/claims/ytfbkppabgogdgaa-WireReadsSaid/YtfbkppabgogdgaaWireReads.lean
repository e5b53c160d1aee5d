/- 'aditlaw13.WireReads' returns true at every input and writes nothing that was there: the walk. No condition. -/
import Derived.Test.YtfbkppabgogdgaaWireHelp
import Derived.Test.YtfbkppabgogdgaaWireAlive
namespace Go.Proofs.Ytfbkppabgogdgaa
namespace WireReads
open Go.ChangeShapes Go.WideShapes Go.ChangeAt Go.RowKit
open Num Mem Words Ref Cuts Chacha Quiet Wire RefW

theorem rd_some {w : World} {A : Option Addr} {n : Nat} {f : Nat → Nat} (h : Rd w A n f) (h0 : 0 < n) : ∃ b off, A = some ⟨b, off, none⟩ ∧ b < w.heap.size := by
  rcases h with h | ⟨b, off, e, hb, _⟩
  · omega
  · exact ⟨b, off, e, hb⟩
theorem hello_both (A A2 : Option Addr) (n c c2 : Nat) (f : Nat → Nat) (hf : ∀ i, f i < 256) (hn : n ≤ 2000) (hnc : n ≤ c) (hcm : c ≤ 9223372036854775807) (h2 : 0 < n → n ≤ c2 ∧ c2 ≤ 9223372036854775807) :
    ∃ (L : List Value) (E : Nat), L.length = 141 ∧ L.toArray.all (·.oneCell') = true ∧ (∀ w, Rd w A2 n f → Calls Try.prog 27 #[.slice A2 n c2] w fun e w' => e = .returned (.tuple #[.agg L.toArray, .int .i64 (E : Nat)]) ∧ Below w.heap.size w w') ∧ (∀ w, Rd w A n f → Calls Try.prog 31 #[.slice A n c, .agg L.toArray, .int .i64 (E : Nat)] w fun e w' => e = .returned (.bool true) ∧ Below w.heap.size w w') := by
  by_cases hE : openE f n 1 = 0
  · obtain rfl : n = 148 := sizeHello hE
    refine ⟨one (le f 4 4) (fun i => f (8 + i)) 140, 0, one_length _ _ _, one_one _ _ _, fun w hr => ?_, fun w hr => ?_⟩
    · obtain ⟨b, off, rfl, hb⟩ := rd_some hr (by omega)
      exact readHello_ok b off 148 c2 f hf (h2 (by omega)).1 (h2 (by omega)).2 hE w hr hb
    · obtain ⟨b, off, rfl, hb⟩ := rd_some hr (by omega)
      exact hello_ok b off c f hf hnc hcm hE w hb hr
  · exact ⟨one 0 (fun _ => 0) 140, openE f n 1, one_length _ _ _, one_one _ _ _, fun w hr => readHello_no A2 n c2 f hf (by omega) hE w hr, fun w hr => hello_no A n c f hf (by omega) hE w hr⟩
theorem answer_both (A A2 : Option Addr) (n c c2 : Nat) (f : Nat → Nat) (hf : ∀ i, f i < 256) (hn : n ≤ 2000) (hnc : n ≤ c) (hcm : c ≤ 9223372036854775807) (h2 : 0 < n → n ≤ c2 ∧ c2 ≤ 9223372036854775807) :
    ∃ (L : List Value) (E : Nat), L.length = 82 ∧ L.toArray.all (·.oneCell') = true ∧ (∀ w, Rd w A2 n f → Calls Try.prog 28 #[.slice A2 n c2] w fun e w' => e = .returned (.tuple #[.agg L.toArray, .int .i64 (E : Nat)]) ∧ Below w.heap.size w w') ∧ (∀ w, Rd w A n f → Calls Try.prog 32 #[.slice A n c, .agg L.toArray, .int .i64 (E : Nat)] w fun e w' => e = .returned (.bool true) ∧ Below w.heap.size w w') := by
  by_cases hE : openE f n 2 = 0
  · obtain rfl : n = 92 := sizeAnswer hE
    refine ⟨two (le f 4 4) (le f 8 4) (fun i => f (12 + i)) 80, 0, two_length _ _ _ _, two_one _ _ _ _, fun w hr => ?_, fun w hr => ?_⟩
    · obtain ⟨b, off, rfl, hb⟩ := rd_some hr (by omega)
      exact readAnswer_ok b off 92 c2 f hf (h2 (by omega)).1 (h2 (by omega)).2 hE w hr hb
    · obtain ⟨b, off, rfl, hb⟩ := rd_some hr (by omega)
      exact answer_ok b off c f hf hnc hcm hE w hb hr
  · exact ⟨two 0 0 (fun _ => 0) 80, openE f n 2, two_length _ _ _ _, two_one _ _ _ _, fun w hr => readAnswer_no A2 n c2 f hf (by omega) hE w hr, fun w hr => answer_no A n c f hf (by omega) hE w hr⟩
theorem cookie_both (A A2 : Option Addr) (n c c2 : Nat) (f : Nat → Nat) (hf : ∀ i, f i < 256) (hn : n ≤ 2000) (hnc : n ≤ c) (hcm : c ≤ 9223372036854775807) (h2 : 0 < n → n ≤ c2 ∧ c2 ≤ 9223372036854775807) :
    ∃ (L : List Value) (E : Nat), L.length = 57 ∧ L.toArray.all (·.oneCell') = true ∧ (∀ w, Rd w A2 n f → Calls Try.prog 29 #[.slice A2 n c2] w fun e w' => e = .returned (.tuple #[.agg L.toArray, .int .i64 (E : Nat)]) ∧ Below w.heap.size w w') ∧ (∀ w, Rd w A n f → Calls Try.prog 33 #[.slice A n c, .agg L.toArray, .int .i64 (E : Nat)] w fun e w' => e = .returned (.bool true) ∧ Below w.heap.size w w') := by
  by_cases hE : openE f n 3 = 0
  · obtain rfl : n = 64 := sizeCookie hE
    refine ⟨one (le f 4 4) (fun i => f (8 + i)) 56, 0, one_length _ _ _, one_one _ _ _, fun w hr => ?_, fun w hr => ?_⟩
    · obtain ⟨b, off, rfl, hb⟩ := rd_some hr (by omega)
      exact readCookie_ok b off 64 c2 f hf (h2 (by omega)).1 (h2 (by omega)).2 hE w hr hb
    · obtain ⟨b, off, rfl, hb⟩ := rd_some hr (by omega)
      exact cookie_ok b off c f hf hnc hcm hE w hb hr
  · exact ⟨one 0 (fun _ => 0) 56, openE f n 3, one_length _ _ _, one_one _ _ _, fun w hr => readCookie_no A2 n c2 f hf (by omega) hE w hr, fun w hr => cookie_no A n c f hf (by omega) hE w hr⟩

/-- what ReadData answered, where block B0 is the first that it may have made -/
def DataAt (f : Nat → Nat) (n : Nat) (B0 : Nat) (cs : Array Value) (E : Nat) (X : World) : Prop :=
  (openE f n 4 ≠ 0 ∧ cs = #[.int .u32 0, .int .u64 0, .slice none 0 0] ∧ E = openE f n 4) ∨
  (openE f n 4 = 0 ∧ E = 0 ∧ ∃ gm, B0 ≤ gm ∧ cs = #[.int .u32 (le f 4 4 : Nat), .int .u64 (le f 8 8 : Nat), .slice (some ⟨gm, 0, none⟩) (n - 16 : Nat) (n - 16 : Nat)] ∧ Whole X gm 5 (byteCells (fun i => f (16 + i)) (n - 16)).toArray)
theorem DataAt.below {f : Nat → Nat} {n B0 E : Nat} {cs : Array Value} {X Y : World} (h : DataAt f n B0 cs E X) (hb : Below X.heap.size X Y) : DataAt f n B0 cs E Y := by
  rcases h with h | ⟨h1, h2, gm, h3, h4, h5⟩
  · exact .inl h
  · exact .inr ⟨h1, h2, gm, h3, h4, h5.below hb h5.lt⟩
theorem DataAt.grown {f : Nat → Nat} {n B0 E b : Nat} {cs : Array Value} {X Y : World} (h : DataAt f n B0 cs E X) (hb : X.grownBy Y (some b)) (hlt : b < B0) : DataAt f n B0 cs E Y := by
  rcases h with h | ⟨h1, h2, gm, h3, h4, h5⟩
  · exact .inl h
  · exact .inr ⟨h1, h2, gm, h3, h4, (hb.block gm h5.lt (by intro e; injection e with e; omega)).trans h5⟩
theorem DataAt.three {f : Nat → Nat} {n B0 E : Nat} {cs : Array Value} {X : World} (h : DataAt f n B0 cs E X) : cs.size = 3 ∧ cs.all (·.oneCell') = true := by
  rcases h with ⟨_, rfl, _⟩ | ⟨_, _, gm, _, rfl, _⟩
  · exact ⟨rfl, by simp [Value.oneCell']⟩
  · exact ⟨rfl, by simp [Value.oneCell']⟩
theorem readData_at (A2 : Option Addr) (n c2 : Nat) (f : Nat → Nat) (hf : ∀ i, f i < 256) (hn : n ≤ 2000) (h2 : 0 < n → n ≤ c2 ∧ c2 ≤ 9223372036854775807) (w : World) (hr : Rd w A2 n f) :
    Calls Try.prog 30 #[.slice A2 n c2] w fun e w' => ∃ cs E, e = .returned (.tuple #[.agg cs, .int .i64 ((E : Nat) : Int)]) ∧ DataAt f n w.heap.size cs E w' ∧ Below w.heap.size w w' := by
  by_cases hE : openE f n 4 = 0
  · have hsz := sizeData hE
    obtain ⟨b, off, rfl, hb⟩ := rd_some hr (by omega)
    refine (readData_ok b off n c2 f hf (h2 (by omega)).1 (h2 (by omega)).2 hE w hr hb).mono ?_
    rintro e w' ⟨gm, rfl, hg, hgw, hb⟩
    exact ⟨_, 0, rfl, .inr ⟨hE, rfl, gm, hgw, rfl, hg⟩, hb⟩
  · refine (readData_no A2 n c2 f hf (by omega) hE w hr).mono ?_
    rintro e w' ⟨rfl, hb⟩
    exact ⟨_, _, rfl, .inl ⟨hE, rfl, rfl⟩, hb⟩
theorem data_at (A : Option Addr) (n c : Nat) (f : Nat → Nat) (hf : ∀ i, f i < 256) (hn : n ≤ 2000) (hnc : n ≤ c) (hcm : c ≤ 9223372036854775807) (B0 E : Nat) (cs : Array Value) (X : World) (h : DataAt f n B0 cs E X) (hr : Rd X A n f) :
    Calls Try.prog 34 #[.slice A n c, .agg cs, .int .i64 (E : Nat)] X fun e w' => e = .returned (.bool true) ∧ Below X.heap.size X w' := by
  rcases h with ⟨h1, rfl, rfl⟩ | ⟨h1, rfl, gm, _, rfl, h5⟩
  · exact data_no A n c f hf (by omega) h1 X hr
  · have hsz := sizeData h1
    obtain ⟨b, off, rfl, hb⟩ := rd_some hr (by omega)
    obtain ⟨N, rfl⟩ : ∃ N, n = N + 16 := ⟨n - 16, by omega⟩
    obtain ⟨M, rfl⟩ : ∃ M, c = M + 16 := ⟨c - 16, by omega⟩
    rw [show N + 16 - 16 = N by omega] at h5 ⊢
    exact data_ok b off N M gm f hf (by omega) hcm h1 X hb hr h5

/-- what stays: the copy, and the messages' variables -/
structure Sv (w : World) (b : Nat) (A2 : Option Addr) (n c2 : Nat) (f : Nat → Nat) (l : List (Nat × TypeId × Array Value)) (X : World) : Prop where
  own : Own X w.heap.size 5 A2 n c2 f
  bel : Below w.heap.size w X
  lt : 0 < n → b < X.heap.size
  wh : ∀ p ∈ l, Whole X p.1 p.2.1 p.2.2 ∧ (0 < n → p.1 ≠ b)
section
variable {w X Y : World} {b n c2 : Nat} {A2 : Option Addr} {f : Nat → Nat} {l : List (Nat × TypeId × Array Value)}
theorem Sv.below (h : Sv w b A2 n c2 f l X) (hb : Below X.heap.size X Y) : Sv w b A2 n c2 f l Y :=
  ⟨h.own.below hb (Nat.le_refl _), below_trans h.bel hb, fun h0 => Nat.lt_of_lt_of_le (h.lt h0) hb.size, fun p hp => ⟨(h.wh p hp).1.below hb (h.wh p hp).1.lt, (h.wh p hp).2⟩⟩
theorem store_belowX (o : Obj) (a : Array Value) : Below X.heap.size X ((X.alloc o).setRow X.heap.size a) := below_setRow (below_alloc (Below.refl _ _) o) (Nat.le_refl _) a
theorem Sv.push (h : Sv w b A2 n c2 f l X) (t : TypeId) (z a : Array Value) : Sv w b A2 n c2 f ((X.heap.size, t, a) :: l) ((X.alloc (.cells z t)).setRow X.heap.size a) := by
  have hb := store_belowX (X := X) (.cells z t) a
  have h2 := h.below hb
  refine ⟨h2.own, h2.bel, h2.lt, fun p hp => ?_⟩
  rcases List.mem_cons.1 hp with rfl | hp
  · exact ⟨setRow_heap _ _ _ _ _ _ (Whole.new _ _ _), fun h0 => by have := h.lt h0; show X.heap.size ≠ b; omega⟩
  · exact h2.wh p hp
end

/-- n bytes, whatever they are, in a block that is known whole -/
def Bytes (X : World) (b n : Nat) : Prop := ∃ (cs : Array Value) (t : TypeId), Whole X b t cs ∧ ∀ i, i < n → ∃ v : Nat, v < 256 ∧ cs[i]? = some (.int .u8 (v : Nat))
theorem Bytes.of_own {X : World} {B t b n c : Nat} {F : Nat → Nat} (h : Own X B t (some ⟨b, 0, none⟩) n c F) (hF : ∀ i, F i < 256) : Bytes X b n := by
  have h0 : X.ownsRow B t 1 (.slice (some ⟨b, 0, none⟩) n c) n (byteCells F n) := h
  rcases h.2 with ⟨e, _⟩ | ⟨b', cap, cur, e, _, hh, _⟩
  · cases e
  · injection e with e1 _ _
    injection e1 with e1
    injection e1 with e1
    subst e1
    refine ⟨_, _, hh, fun i hi => ⟨F i, hF i, ?_⟩⟩
    have h2 := h0.cellAt i (by omega)
    rw [byteCells_get F n i hi] at h2
    rw [← h2]
    exact (cell_of_row _ _ _ _ t (0, 0) hh).symm
theorem Bytes.cell {X : World} {b n : Nat} (h : Bytes X b n) (i : Nat) (hi : i < n) : ∃ v : Nat, v < 256 ∧ X.cell? ⟨b, i, none⟩ = some (.int .u8 (v : Nat)) ∧ X.frozen? ⟨b, i, none⟩ = false := by
  obtain ⟨cs, t, hw, hc⟩ := h
  obtain ⟨v, hv, e⟩ := hc i hi
  exact ⟨v, hv, by rw [Whole.cell hw]; exact e, Whole.free hw i⟩
theorem Bytes.put {X : World} {b n : Nat} (h : Bytes X b n) (i v : Nat) (hv : v < 256) : Bytes (X.setCell ⟨b, i, none⟩ (.int .u8 (v : Nat))) b n := by
  obtain ⟨cs, t, hw, hc⟩ := h
  refine ⟨_, t, Whole.put hw i _, fun j hj => ?_⟩
  obtain ⟨u, hu, e⟩ := hc j hj
  by_cases hij : i = j
  · subst hij
    refine ⟨v, hv, ?_⟩
    have hlt : i < cs.size := by
      rcases Nat.lt_or_ge i cs.size with h1 | h1
      · exact h1
      · rw [Array.getElem?_eq_none h1] at e
        cases e
    rw [Array.getElem?_setIfInBounds_self_of_lt hlt]
  · exact ⟨u, hu, by rw [Array.getElem?_setIfInBounds_ne hij]; exact e⟩
theorem grown_put (w : World) (g i : Nat) (v : Value) : w.grownBy (w.setCell ⟨g, i, none⟩ v) (some g) :=
  ⟨rfl, rfl, rfl, by simp [World.setCell], fun k _ hk => Below.heap_setCell w ⟨g, i, none⟩ v k (fun e => hk (by rw [e]))⟩
theorem grown_next {a b c : World} {row : Option Nat} (h : a.grownBy b row) (k : b.grownBy c row) : a.grownBy c row :=
  ⟨k.os.trans h.os, k.tape.trans h.tape, k.output.trans h.output, Nat.le_trans h.size k.size, fun i hi hne => (k.block i (Nat.lt_of_lt_of_le hi h.size) hne).trans (h.block i hi hne)⟩

structure Turn (X : World) (b n : Nat) (Y : World) : Prop where
  grown : X.grownBy Y (some b)
  bytes : Bytes Y b n
theorem Turn.put {X Y : World} {b n : Nat} (h : Turn X b n Y) (i v : Nat) (hv : v < 256) : Turn X b n (Y.setCell ⟨b, i, none⟩ (.int .u8 (v : Nat))) :=
  ⟨grown_next h.grown (grown_put Y b i _), h.bytes.put i v hv⟩
/-- what stays behind the loop -/
structure Af (w : World) (f : Nat → Nat) (n B0 : Nat) (cs : Array Value) (E : Nat) (l : List (Nat × TypeId × Array Value)) (X : World) : Prop where
  bel : Below w.heap.size w X
  data : DataAt f n B0 cs E X
  wh : ∀ p ∈ l, Whole X p.1 p.2.1 p.2.2
theorem Af.below {w X Y : World} {f : Nat → Nat} {n B0 E : Nat} {cs : Array Value} {l : List (Nat × TypeId × Array Value)} (h : Af w f n B0 cs E l X) (hb : Below X.heap.size X Y) : Af w f n B0 cs E l Y :=
  ⟨below_trans h.bel hb, h.data.below hb, fun p hp => (h.wh p hp).below hb (h.wh p hp).lt⟩

set_option maxRecDepth 100000 in
set_option maxHeartbeats 8000000 in
theorem walk (A : Option Addr) (n c : Nat) (zs : List Int) (w : World) (hrow : IsRow .u8 w A n c zs) :
    Calls Try.prog 4 #[.slice A n c] w fun e w' => e = .returned (.bool true) ∧ Below w.heap.size w w' := by
  obtain ⟨f, hf, hrd, hnc, hcm⟩ := rd_of_row hrow
  have hnil : A = none → n = 0 ∧ c = 0 := fun e => by
    rcases hrow with ⟨_, h4, h5, _⟩ | ⟨x, h4, _⟩
    · exact ⟨h4, h5⟩
    · rw [e] at h4
      cases h4
  clear hrow
  have HRD := Lib.hid hrd
  have HF := Lib.hid hf
  have HNIL := Lib.hid hnil
  clear hrd hf hnil
  by_cases hbig : 2000 < n
  · have d1 : decide ((2000 : Int) < (n : Int)) = true := decide_eq_true (by omega)
    go_enter Try.func4, Try.ntmps4
    go_wp2_with fail
    refine (alive_any _).mono ?_
    rintro e w1 ⟨rfl, hb⟩
    have HB := Lib.hid hb
    clear hb
    go_wp2_with fail
    go_ret
    exact ⟨rfl, HB.out⟩
  have d1 : decide ((2000 : Int) < (n : Int)) = false := decide_eq_false (by omega)
  go_enter Try.func4, Try.ntmps4
  go_wp2_with fail
  refine (copy_any A n c f (by omega) HNIL.out _ HRD.out).mono ?_
  rintro e w1 ⟨A2, c2, rfl, ho, hb1⟩
  obtain ⟨b, hb0⟩ : ∃ b, 0 < n → A2 = some ⟨b, 0, none⟩ ∧ w.heap.size ≤ b ∧ b < w1.heap.size ∧ n ≤ c2 ∧ c2 ≤ 9223372036854775807 := by
    rcases Nat.eq_zero_or_pos n with h0 | h0
    · exact ⟨0, fun h => by omega⟩
    · rcases ho.2 with ⟨_, h1⟩ | ⟨g, cap, cur, e, h1, h2, h3, h4, _⟩
      · omega
      · injection e with e1 _ e3
        subst e3
        refine ⟨g, fun _ => ⟨e1, h1, ?_, h3, h4⟩⟩
        rcases Nat.lt_or_ge g w1.heap.size with k | k
        · exact k
        · rw [Array.getElem?_eq_none k] at h2
          cases h2
  obtain ⟨L0, E0, H0Z, H01, CH, DH⟩ := hello_both A A2 n c c2 f HF.out (by omega) hnc hcm (fun h => (hb0 h).2.2.2)
  obtain ⟨L1, E1, H1Z, H11, CA, DA⟩ := answer_both A A2 n c c2 f HF.out (by omega) hnc hcm (fun h => (hb0 h).2.2.2)
  obtain ⟨L2, E2, H2Z, H21, CC, DC⟩ := cookie_both A A2 n c c2 f HF.out (by omega) hnc hcm (fun h => (hb0 h).2.2.2)
  have CD := Lib.hid (fun w hr => readData_at A2 n c2 f HF.out (by omega) (fun h => (hb0 h).2.2.2) w hr)
  have CK := Lib.hid (fun w hr => Wire.kind_any A2 n c2 f HF.out (by omega) w hr)
  have CR := Lib.hid (fun w hr => RefW.kind_any A n c f HF.out (by omega) w hr)
  have S1 := Lib.hid (show Sv w b A2 n c2 f [] w1 from ⟨ho, hb1, fun h => (hb0 h).2.2.1, fun p hp => (by cases hp)⟩)
  have HB0 := Lib.hid (fun h => (⟨(hb0 h).1, (hb0 h).2.1, (hb0 h).2.2.1⟩ : A2 = some ⟨b, 0, none⟩ ∧ w.heap.size ≤ b ∧ b < w1.heap.size))
  have H0S := Lib.hid H0Z
  have H1S := Lib.hid H1Z
  have H2S := Lib.hid H2Z
  have H0A := Lib.hid (show L0.toArray.size = 141 by rw [List.size_toArray]; exact H0Z)
  have H1A := Lib.hid (show L1.toArray.size = 82 by rw [List.size_toArray]; exact H1Z)
  have H2A := Lib.hid (show L2.toArray.size = 57 by rw [List.size_toArray]; exact H2Z)
  have H01 := Lib.hid H01
  have H11 := Lib.hid H11
  have H21 := Lib.hid H21
  have CH := Lib.hid CH
  have CA := Lib.hid CA
  have CC := Lib.hid CC
  have DH := Lib.hid DH
  have DA := Lib.hid DA
  have DC := Lib.hid DC
  clear ho hb1 hb0 H0Z H1Z H2Z
  generalize kindV f n = kv at CK CR
  generalize kindE f n = ke at CK CR
  go_wp2_with fail
  refine (CK.out _ S1.out.own.rd).mono ?_
  rintro e w2 ⟨rfl, rfl⟩
  go_wp2_with fail
  refine (CR.out _ (HRD.out.below S1.out.bel (Nat.le_refl _))).mono ?_
  rintro e w1 ⟨rfl, rfl⟩
  go_wp2_with fail
  refine (CH.out _ S1.out.own.rd).mono ?_
  rintro e w3 ⟨rfl, hb⟩
  have S2 := Lib.hid (S1.out.below hb)
  have HS2 := Lib.hid hb.size
  clear hb
  go_upto_region 7 with (refine wpList_store_row rfl 29 (.tmp 8) (.tmp 36) rfl w3.heap.size L0.toArray rfl rfl 29 _ (Whole.new _ _ _) (by rw [H0A.out]; kernel_rfl) (by rw [H0A.out]; rfl) H01.out ?_)
  refine cut_world (fun X => Sv w b A2 n c2 f [(w3.heap.size, 29, L0.toArray)] X ∧ Below w3.heap.size w3 X) ⟨S2.out.push _ _ _, store_belowX _ _⟩ ?_
  rintro X0 ⟨sv, hb⟩
  have HS3 := Lib.hid (Nat.le_trans HS2.out hb.size)
  clear hb S2 CH
  generalize w3.heap.size = B0 at sv ⊢
  have S3 := Lib.hid sv
  clear sv
  go_wp2_with fail
  refine (CA.out _ S3.out.own.rd).mono ?_
  rintro e w4 ⟨rfl, hb⟩
  have S4 := Lib.hid (S3.out.below hb)
  have HS4 := Lib.hid (Nat.le_trans HS3.out hb.size)
  clear hb
  go_upto_region 8 with (refine wpList_store_row rfl 31 (.tmp 10) (.tmp 41) rfl w4.heap.size L1.toArray rfl rfl 31 _ (Whole.new _ _ _) (by rw [H1A.out]; kernel_rfl) (by rw [H1A.out]; rfl) H11.out ?_)
  refine cut_world (fun X => Sv w b A2 n c2 f [(w4.heap.size, 31, L1.toArray), (B0, 29, L0.toArray)] X ∧ Below w4.heap.size w4 X) ⟨S4.out.push _ _ _, store_belowX _ _⟩ ?_
  rintro X1 ⟨sv, hb⟩
  have HS5 := Lib.hid (Nat.le_trans HS4.out hb.size)
  clear hb S3 S4 CA
  generalize w4.heap.size = B1 at sv ⊢
  have S5 := Lib.hid sv
  clear sv
  go_wp2_with fail
  refine (CC.out _ S5.out.own.rd).mono ?_
  rintro e w5 ⟨rfl, hb⟩
  have S6 := Lib.hid (S5.out.below hb)
  have HS6 := Lib.hid (Nat.le_trans HS5.out hb.size)
  clear hb
  go_upto_region 9 with (refine wpList_store_row rfl 34 (.tmp 12) (.tmp 46) rfl w5.heap.size L2.toArray rfl rfl 34 _ (Whole.new _ _ _) (by rw [H2A.out]; kernel_rfl) (by rw [H2A.out]; rfl) H21.out ?_)
  refine cut_world (fun X => Sv w b A2 n c2 f [(w5.heap.size, 34, L2.toArray), (B1, 31, L1.toArray), (B0, 29, L0.toArray)] X ∧ Below w5.heap.size w5 X) ⟨S6.out.push _ _ _, store_belowX _ _⟩ ?_
  rintro X2 ⟨sv, hb⟩
  have HS7 := Lib.hid (Nat.le_trans HS6.out hb.size)
  clear hb S5 S6 CC
  generalize w5.heap.size = B2 at sv ⊢
  have S7 := Lib.hid sv
  clear sv
  go_wp2_with fail
  refine (CD.out _ S7.out.own.rd).mono ?_
  rintro e w6 ⟨cs, E3, rfl, hda, hb⟩
  obtain ⟨lc, rfl⟩ : ∃ l : List Value, cs = l.toArray := ⟨cs.toList, by simp⟩
  have HD0 := Lib.hid hda
  obtain ⟨h3z, h31⟩ := hda.three
  have H3A := Lib.hid h3z
  have H3S := Lib.hid (show lc.length = 3 by rw [← List.size_toArray]; exact h3z)
  have H31 := Lib.hid h31
  have S8 := Lib.hid (S7.out.below hb)
  have HS8 := Lib.hid (show w1.heap.size ≤ X2.heap.size from HS7.out)
  clear hb hda h3z h31
  generalize X2.heap.size = BD at HD0 HS8
  go_upto_region 10 with (refine wpList_store_row rfl 38 (.tmp 14) (.tmp 51) rfl w6.heap.size lc.toArray rfl rfl 38 _ (Whole.new _ _ _) (by rw [H3A.out]; kernel_rfl) (by rw [H3A.out]; rfl) H31.out ?_)
  refine cut_world (fun X => Sv w b A2 n c2 f [(w6.heap.size, 38, lc.toArray), (B2, 34, L2.toArray), (B1, 31, L1.toArray), (B0, 29, L0.toArray)] X ∧ DataAt f n BD lc.toArray E3 X) ⟨S8.out.push _ _ _, HD0.out.below (store_belowX _ _)⟩ ?_
  rintro X3 ⟨sv, hda⟩
  clear S7 S8 CD HD0
  generalize w6.heap.size = B3 at sv ⊢
  have S9 := Lib.hid sv
  have HDA := Lib.hid hda
  clear sv hda
  go_wp2_with fail
  go_loopw [16] (fun j Y => ∃ q : Nat, j = .int .i64 q ∧ q ≤ n ∧ ((n = 0 ∧ Y = X3) ∨ (0 < n ∧ Turn X3 b n Y))) (fun j _ => n - (intOf j).toNat)
  case atStart =>
    refine ⟨0, rfl, by omega, ?_⟩
    rcases Nat.eq_zero_or_pos n with h0 | h0
    · exact .inl ⟨h0, rfl⟩
    · obtain ⟨rfl, _, _⟩ := HB0.out h0
      exact .inr ⟨h0, World.grownBy.refl _ _, Bytes.of_own S9.out.own HF.out⟩
  case round =>
    obtain ⟨q, rfl, hqn, hq⟩ := hrel
    have HQ := Lib.hid hq
    clear hq
    by_cases hqlt : q < n
    · have dq : decide ((q : Int) < (n : Int)) = true := decide_eq_true (by omega)
      obtain ⟨rfl, _, _⟩ := HB0.out (by omega)
      obtain ⟨_, hT⟩ : 0 < n ∧ Turn X3 b n wr := by
        rcases HQ.out with h | h
        · omega
        · exact h
      obtain ⟨v, hv, hvc, hvf⟩ := hT.bytes.cell q hqlt
      have HX := Lib.hid (show bits .xor .u8 ((v : Nat) : Int) 255 = ((v ^^^ 255 : Nat) : Int) from u8_xor_nat v 255 hv (by omega))
      have HT := Lib.hid (hT.put q (v ^^^ 255) (Nat.xor_lt_two_pow (n := 8) hv (by omega)))
      have q1 : (q : Int) + 1 ≤ (n : Int) := by omega
      clear hT
      go_wp2_with fail
      rw [HX.out]
      go_roundw
      case rel => exact ⟨q + 1, by go_num, by omega, .inr ⟨by omega, HT.out⟩⟩
      case measure => simp [intOf]; omega
    · obtain rfl : q = n := by omega
      have dq : decide ((q : Int) < (q : Int)) = false := decide_eq_false (by omega)
      have AF := Lib.hid (show Af w f q BD lc.toArray E3 [(B3, 38, lc.toArray), (B2, 34, L2.toArray), (B1, 31, L1.toArray), (B0, 29, L0.toArray)] wr from by
        rcases HQ.out with ⟨_, h⟩ | ⟨h0, h⟩
        · rw [h]
          exact ⟨S9.out.bel, HDA.out, fun p hp => (S9.out.wh p hp).1⟩
        · obtain ⟨_, h2, h3⟩ := HB0.out h0
          exact ⟨Chacha.below_grown S9.out.bel h.grown h2 S9.out.bel.size, HDA.out.grown h.grown (by have := HS8.out; omega), fun p hp => whole_grown (S9.out.wh p hp).1 h.grown ((S9.out.wh p hp).2 h0).symm⟩)
      clear S9 HDA HQ HB0
      go_wp2_with fail
      refine (alive_any _).mono ?_
      rintro e v1 ⟨rfl, hb⟩
      have A1 := Lib.hid (AF.out.below hb)
      clear hb AF
      have W0 := Lib.hid (A1.out.wh (B0, 29, L0.toArray) (by simp))
      go_wp2_with (refine Poly.wpList_load_row_if (by rfl) 29 (.tmp 8) rfl B0 rfl 29 L0 _ W0.out rfl rfl (by rw [H0S.out]; kernel_rfl) ?_)
      refine (DH.out _ (HRD.out.below A1.out.bel (Nat.le_refl _))).mono ?_
      rintro e v2 ⟨rfl, hb⟩
      have A2' := Lib.hid (A1.out.below hb)
      clear hb A1 W0
      have W1 := Lib.hid (A2'.out.wh (B1, 31, L1.toArray) (by simp))
      go_wp2_with (refine Poly.wpList_load_row_if (by rfl) 31 (.tmp 10) rfl B1 rfl 31 L1 _ W1.out rfl rfl (by rw [H1S.out]; kernel_rfl) ?_)
      refine (DA.out _ (HRD.out.below A2'.out.bel (Nat.le_refl _))).mono ?_
      rintro e v3 ⟨rfl, hb⟩
      have A3 := Lib.hid (A2'.out.below hb)
      clear hb A2' W1
      have W2 := Lib.hid (A3.out.wh (B2, 34, L2.toArray) (by simp))
      go_wp2_with (refine Poly.wpList_load_row_if (by rfl) 34 (.tmp 12) rfl B2 rfl 34 L2 _ W2.out rfl rfl (by rw [H2S.out]; kernel_rfl) ?_)
      refine (DC.out _ (HRD.out.below A3.out.bel (Nat.le_refl _))).mono ?_
      rintro e v4 ⟨rfl, hb⟩
      have A4 := Lib.hid (A3.out.below hb)
      clear hb A3 W2
      have W3 := Lib.hid (A4.out.wh (B3, 38, lc.toArray) (by simp))
      go_wp2_with (refine Poly.wpList_load_row_if (by rfl) 38 (.tmp 14) rfl B3 rfl 38 lc _ W3.out rfl rfl (by rw [H3S.out]; kernel_rfl) ?_)
      refine (data_at A q c f HF.out (by omega) hnc hcm BD E3 lc.toArray _ A4.out.data (HRD.out.below A4.out.bel (Nat.le_refl _))).mono ?_
      rintro e v5 ⟨rfl, hb⟩
      have A5 := Lib.hid (below_trans A4.out.bel hb)
      clear hb A4 W3
      go_wp2_with fail
      go_ret
      exact ⟨rfl, A5.out⟩

end WireReads
end Go.Proofs.Ytfbkppabgogdgaa
