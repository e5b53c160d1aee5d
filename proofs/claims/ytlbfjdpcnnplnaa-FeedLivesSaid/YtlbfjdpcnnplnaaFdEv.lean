/- The events of the statements; the fixed calls (alive). -/
import Derived.Test.YtlbfjdpcnnplnaaFdAll
namespace Go.Proofs.Ytlbfjdpcnnplnaa
namespace Fee
open Go.ChangeShapes Go.WideShapes Go.ChangeAt Go.RowKit Go.Maps
open Num Mem Words Chacha Aead Poly Quiet RowV RowS

def evE (from_ i : Nat) : Ev := ⟨1 + ((i % 3 : Nat) : Int), fun j => if j = 0 then i else 0, from_ + i⟩
def evN (n : Int) : Nat := min n.toNat 40
def evs (from_ k : Nat) : List Ev := (List.range k).map (evE from_)
theorem evs_length (f k : Nat) : (evs f k).length = k := by simp [evs]
theorem evs_succ (f k : Nat) : evs f (k + 1) = evs f k ++ [evE f k] := by simp [evs, List.range_succ]
theorem evs_get (f k i : Nat) (h : i < k) : (evs f k)[i]? = some (evE f i) := by simp [evs, h]
def flatE : List Ev → List Value
  | [] => []
  | x :: L => evL x ++ flatE L
theorem flatE_append : ∀ L M : List Ev, flatE (L ++ M) = flatE L ++ flatE M
  | [], _ => rfl
  | x :: L, M => by show evL x ++ flatE (L ++ M) = (evL x ++ flatE L) ++ flatE M; rw [flatE_append L M, List.append_assoc]
theorem flatE_length : ∀ L : List Ev, (flatE L).length = L.length * 34
  | [] => rfl
  | x :: L => by show (evL x ++ flatE L).length = _; rw [List.length_append, evL_length, flatE_length L, List.length_cons]; omega
theorem flatE_get : ∀ (L : List Ev) (i j : Nat) (x : Ev), L[i]? = some x → j < 34 → (flatE L)[i * 34 + j]? = (evL x)[j]?
  | [], i, j, x, h, _ => by simp at h
  | y :: L, 0, j, x, h, hj => by
    simp only [List.getElem?_cons_zero, Option.some.injEq] at h
    subst h
    show (evL y ++ flatE L)[0 * 34 + j]? = _
    rw [Nat.zero_mul, Nat.zero_add, List.getElem?_append_left (by rw [evL_length]; exact hj)]
  | y :: L, i + 1, j, x, h, hj => by
    rw [List.getElem?_cons_succ] at h
    show (evL y ++ flatE L)[(i + 1) * 34 + j]? = _
    rw [List.getElem?_append_right (by rw [evL_length]; omega), evL_length, show (i + 1) * 34 + j - 34 = i * 34 + j by omega]
    exact flatE_get L i j x h hj
/-- a row of events of one's own -/
def OwE (w : World) (B : Nat) (A : Option Addr) (c : Nat) (l : List Ev) : Prop := w.ownsRow B 45 34 (.slice A l.length c) l.length (flatE l)
theorem OwE.rd {w : World} {B : Nat} {A : Option Addr} {c : Nat} {l : List Ev} (h : OwE w B A c l) : RdE w A l := by
  rcases l with _ | ⟨x, l⟩
  · exact .inl rfl
  · obtain ⟨g, e, _, hlt, hc⟩ := own_cells h (by rw [List.length_cons]; omega)
    refine .inr ⟨g, 0, e, hlt, fun i y hy j v hv => ?_⟩
    have hj : j < 34 := by rw [← evL_length y]; exact (List.getElem?_eq_some_iff.1 hv).1
    have := flatE_get (x :: l) i j y hy hj
    rw [hv] at this
    rw [Nat.zero_add]
    exact (hc _ _ this).1
theorem OwE.base {w : World} {B : Nat} {A : Option Addr} {c : Nat} {l : List Ev} (h : OwE w B A c l) : ∀ b off, A = some ⟨b, off, none⟩ → B ≤ b ∧ b < w.heap.size := by
  intro b off e
  rcases h.2 with ⟨e1, _⟩ | ⟨g, cap, cur, e1, hB, hh, _⟩
  · injection e1 with e1
    rw [e1] at e
    cases e
  · injection e1 with e1
    rw [e1] at e
    injection e with e
    injection e with e
    subst e
    have hw : Whole w g 45 cur := hh
    exact ⟨hB, hw.lt⟩
theorem info_event : (Try.prog.info? 45).map (fun i => (i.zero, i.size, i.bytes)) = some (some (.agg (evL noEv).toArray), 34, 48) := by kernel_rfl
theorem key_built (i : Nat) : Try.prog.built 43 [(0, .int .u8 (i : Nat))] = some (byteCells (fun j => if j = 0 then i else 0) 32).toArray := by kernel_rfl
theorem event_built (k : Int) (f : Nat → Nat) (v : Nat) : Try.prog.built 45 [(0, .int .i64 k), (1, .agg (byteCells f 32).toArray), (2, .int .u64 (v : Nat))] = some (evL ⟨k, f, v⟩).toArray := by kernel_rfl
theorem event_row (e : Ev) : Try.prog.builtSlice 45 1 [(0, .agg (evL e).toArray)] = some (evL e).toArray := by kernel_rfl
theorem wpList_built3 {P : Program} {ops : Array Oper} {rest : List Oper} {o : Oper} {a : Act} {w : World} {Q : Exit → Act → World → Prop} (hg : o.guard = none) (t : TypeId) (k1 k2 k3 : Nat) (x1 x2 x3 : Operand) (ho : o.op = .build t #[(k1, x1), (k2, x2), (k3, x3)])
    (v1 v2 v3 : Value) (h1 : a.eval x1 = v1) (h2 : a.eval x2 = v2) (h3 : a.eval x3 = v3) (vs : Array Value) (hb : P.built t [(k1, v1), (k2, v2), (k3, v3)] = some vs) (h : wpList P ops Q rest (a.put o.dst (.agg vs)) w) : wpList P ops Q (o :: rest) a w := by
  have e : P.built t ((#[(k1, x1), (k2, x2), (k3, x3)] : Array (Nat × Operand)).map fun (i, x) => (i, a.eval x)).toList = some vs := by simpa [h1, h2, h3] using hb
  refine wpList_build hg t #[(k1, x1), (k2, x2), (k3, x3)] ho (by rw [e]; rfl) ?_
  rw [e]
  exact h
structure EvW (w : World) (f k : Nat) (A : Option Addr) (c : Nat) (X : World) : Prop where
  own : X.ownsRow w.heap.size 45 34 (.slice A k c) k (flatE (evs f k))
  bel : Below w.heap.size w X
set_option maxRecDepth 100000 in
theorem events_any (f : Nat) (n : Int) (hf : f ≤ 1000000000) (w : World) : Calls Try.prog 13 #[.int .u64 (f : Nat), .int .i64 n] w fun e w' => ∃ A c, e = .returned (.slice A (evN n) c) ∧ OwE w' w.heap.size A c (evs f (evN n)) ∧ Below w.heap.size w w' := by
  have hN : evN n ≤ 40 ∧ ((evN n : Nat) : Int) = min (max n 0) 40 := by unfold evN; omega
  have HOO := Lib.hid (fun (w' : World) (A : Option Addr) (c : Nat) (h : w'.ownsRow w.heap.size 45 34 (.slice A (evN n) c) (evN n) (flatE (evs f (evN n)))) => (show OwE w' w.heap.size A c (evs f (evN n)) from by unfold OwE; rw [evs_length]; exact h))
  obtain ⟨N, hNN⟩ : ∃ N, evN n = N := ⟨_, rfl⟩
  rw [hNN] at hN HOO ⊢
  obtain ⟨hN1, hN2⟩ := hN
  have HN2 := Lib.hid hN2
  clear hNN hN2
  go_enter Try.func13, Try.ntmps13
  go_wp2_with fail
  go_loopw [5, 6] (fun out i X => ∃ k A c, k ≤ N ∧ i = .int .i64 k ∧ out = .slice A k c ∧ EvW w f k A c X) (fun _ i _ => N - (intOf i).toNat)
  case atStart => exact ⟨0, none, 0, Nat.zero_le _, rfl, rfl, ⟨rfl, .inl ⟨rfl, rfl⟩⟩, Below.refl _ _⟩
  case round =>
    obtain ⟨k, A, c, hk, rfl, rfl, hE⟩ := hrel
    have HE := Lib.hid hE
    clear hE
    by_cases hlt : k < N
    · have hd1 : decide ((k : Int) < n) = true := decide_eq_true (by have := HN2.out; omega)
      have hd1' : (k : Int) < n := by have := HN2.out; omega
      have hd2 : decide ((k : Int) < 40) = true := decide_eq_true (by omega)
      have hd2' : k < 40 := by omega
      have hw1 : IntKind.i64.wrap (1 + ((k : Int) % 3)) = 1 + ((k : Int) % 3) := by rw [IntKind.wrap_i64]; omega
      have hw2 : IntKind.u8.wrap (k : Int) = (k : Int) := by rw [IntKind.wrap_u8]; omega
      have hw3 : IntKind.u64.wrap (k : Int) = (k : Int) := by rw [IntKind.wrap_u64]; omega
      have hw4 : IntKind.u64.wrap ((f : Int) + (k : Int)) = (f : Int) + (k : Int) := by rw [IntKind.wrap_u64]; omega
      have HKB := Lib.hid (key_built k)
      obtain ⟨K, hK⟩ : ∃ K, (byteCells (fun j => if j = 0 then k else 0) 32).toArray = K := ⟨_, rfl⟩
      have HEB := Lib.hid (event_built (1 + ((k % 3 : Nat) : Int)) (fun j => if j = 0 then k else 0) (f + k))
      rw [hK] at HKB HEB
      have HER := Lib.hid (event_row (evE f k))
      have HEL := Lib.hid (show (evL (evE f k)).length = 34 ∧ ∀ u ∈ evL (evE f k), u.oneCell' = true from ⟨evL_length _, evL_each _⟩)
      have HFS := Lib.hid (show flatE (evs f k) ++ evL (evE f k) = flatE (evs f (k + 1)) by rw [evs_succ, flatE_append]; show _ = flatE (evs f k) ++ (evL (evE f k) ++ []); rw [List.append_nil])
      have HEQ := Lib.hid (show evL ⟨1 + ((k % 3 : Nat) : Int), (fun j => if j = 0 then k else 0), f + k⟩ = evL (evE f k) from rfl)
      rw [HEQ.out] at HEB
      obtain ⟨E, hE⟩ : ∃ E, evL (evE f k) = E := ⟨_, rfl⟩
      rw [hE] at HEB HER HEL HFS
      clear hK hE HEQ
      go_upto_region 5 with fail
      go_wp2_with (first | (refine wpList_built1 rfl 43 0 (.tmp 21) rfl (.int .u8 (k : Nat)) rfl K HKB.out ?_) | (refine wpList_built3 rfl 45 0 1 2 (.tmp 19) (.tmp 22) (.tmp 26) rfl (.int .i64 (1 + ((k % 3 : Nat) : Int))) (.agg K) (.int .u64 (f + k : Nat)) rfl rfl rfl E.toArray HEB.out ?_) | (refine wpList_rowOne rfl 36 45 (.tmp 27) rfl (.agg E.toArray) rfl Try.underlying36 _ HER.out ?_) | (at_builtin; refine wpList_pushS E 34 rfl (.tmp 16) (.tmp 28) 36 45 _ 48 Try.underlying36 info_event rfl (by decide) rfl rfl rfl HE.out.own HE.out.bel.size HEL.out.1 HEL.out.2 (by omega) (by omega) ?_; intro A' c' w' hown hbel))
      have HE2 := Lib.hid (show EvW w f (k + 1) A' c' w' from ⟨by rw [← HFS.out]; exact hown, HE.out.bel.trans hbel⟩)
      clear hown hbel HE
      go_wp2_with fail
      go_roundw
      case rel => exact ⟨k + 1, A', c', by omega, by go_num, rfl, HE2.out⟩
      case measure => simp [intOf]; omega
    · obtain rfl : k = N := by omega
      have HO := Lib.hid (HOO.out _ _ _ HE.out.own)
      have HB := Lib.hid HE.out.bel
      by_cases hc : (k : Int) < n
      · have hd1 : decide ((k : Int) < n) = true := decide_eq_true hc
        have hd2 : decide ((k : Int) < 40) = false := decide_eq_false (by have := HN2.out; omega)
        have hd2' : ¬ k < 40 := by have := HN2.out; omega
        clear HE
        go_wp2_with fail
        go_ret
        exact ⟨_, _, rfl, HO.out, HB.out⟩
      · have hd1 : decide ((k : Int) < n) = false := decide_eq_false hc
        clear HE
        go_wp2_with fail
        go_ret
        exact ⟨_, _, rfl, HO.out, HB.out⟩

theorem evE_ok (f i : Nat) (hi : i < 40) (hf : f ≤ 1000000000) : OkEv (evE f i) := ⟨okI_of (by show (-9223372036854775808 : Int) ≤ 1 + ((i % 3 : Nat) : Int); omega) (by show 1 + ((i % 3 : Nat) : Int) ≤ 9223372036854775807; omega), fun j => by show (if j = 0 then i else 0) < 256; split <;> omega, by show f + i ≤ _; omega⟩
theorem evs_ok (f k : Nat) (hk : k ≤ 40) (hf : f ≤ 1000000000) : ∀ e ∈ evs f k, OkEv e := by
  intro e he
  obtain ⟨i, hi, rfl⟩ := List.mem_map.1 he
  exact evE_ok f i (by have := List.mem_range.1 hi; omega) hf
theorem evN_le (n : Int) : evN n ≤ 40 := by unfold evN; omega
theorem okU_n (n : Nat) (h : n ≤ 1000000000) : okU n := okU_of (by omega)
/-- a feed whose blocks lie from B on -/
def FB (B : Nat) (w : World) (F : Nat → Prop) (g : Nat) (S : St) (last : Nat) : Prop := FW w F g S last ∧ ∀ i, F i → B ≤ i ∧ i < w.heap.size
theorem FB.below {B : Nat} {w w' : World} {F : Nat → Prop} {g last : Nat} {S : St} (h : FB B w F g S last) (hb : Below w.heap.size w w') : FB B w' F g S last := ⟨h.1.below hb, fun i hi => ⟨(h.2 i hi).1, Nat.lt_of_lt_of_le (h.2 i hi).2 hb.size⟩⟩
theorem FB.new {B : Nat} {w w' : World} {g : Nat} (h : FW w' (fun i => w.heap.size ≤ i) g [] 0) (hB : B ≤ w.heap.size) : FB B w' (fun i => w.heap.size ≤ i ∧ i < w'.heap.size) g [] 0 :=
  ⟨h.mono (fun _ h1 h2 => ⟨h2, h1⟩), fun _ hi => ⟨Nat.le_trans hB hi.1, hi.2⟩⟩
theorem FB.turn {B : Nat} {w w' : World} {F : Nat → Prop} {g last last' : Nat} {S S' : St} (h : FB B w F g S last) (hk : Fk F w w') (h' : FW w' F g S' last') : FB B w' F g S' last' := ⟨h', fun i hi => ⟨(h.2 i hi).1, Nat.lt_of_lt_of_le (h.2 i hi).2 hk.size⟩⟩
theorem FB.grow {B : Nat} {w w' : World} {F : Nat → Prop} {g last last' : Nat} {S S' : St} (h : FB B w F g S last) (hB : B ≤ w.heap.size) (h' : FW w' (ext F w) g S' last') : FB B w' (fun i => ext F w i ∧ i < w'.heap.size) g S' last' :=
  ⟨h'.mono (fun _ h1 h2 => ⟨h2, h1⟩), fun i hi => ⟨by rcases hi.1 with h1 | h1; exact (h.2 i h1).1; exact Nat.le_trans hB h1, hi.2⟩⟩

theorem Its.at_ {w : World} {v : Value} {L : List It} (h : Its w v L) (hL : L ≠ []) : ∃ b off, v = .slice (some ⟨b, off, none⟩) L.length L.length ∧ b < w.heap.size ∧ ∀ i x, L[i]? = some x → ∀ j u, (itL x)[j]? = some u → w.cell? ⟨b, off + (i * 35 + j), none⟩ = some u := by
  obtain ⟨A, rfl, h⟩ := h
  rcases h with h | ⟨b, off, cs, rfl, hw, hc⟩
  · have := flatI_length L
    rw [h] at this
    have h2 := List.length_pos_iff.2 hL
    simp at this
    omega
  · refine ⟨b, off, rfl, hw.lt, fun i x hx j u hu => ?_⟩
    have hj : j < 35 := by rw [← itL_length x]; exact (List.getElem?_eq_some_iff.1 hu).1
    have := flatI_get L i j x hx hj
    rw [hu] at this
    rw [hw.cell]
    exact hc _ _ this
theorem itL_lost (x : It) : (itL x)[34]? = some (.int .u64 (x.lost : Nat)) := by
  unfold itL
  rw [List.getElem?_append_right (by rw [evL_length]; omega), evL_length]
  rfl
theorem itL_ver (x : It) : (itL x)[33]? = some (.int .u64 (x.e.v : Nat)) := by
  unfold itL
  rw [List.getElem?_append_left (by rw [evL_length]; omega)]
  unfold evL
  rw [List.getElem?_cons_succ, List.getElem?_append_right (by rw [byteCells_length]; omega), byteCells_length]
  rfl
/-- what stands in a slice of items -/
theorem Its.get {w : World} {v : Value} {L : List It} (h : Its w v L) : ∃ A, v = .slice A L.length L.length ∧ ∀ i x, L[i]? = some x → ∃ b off, A = some ⟨b, off, none⟩ ∧ b < w.heap.size ∧ w.cell? ⟨b, off + i * 35 + 34, none⟩ = some (.int .u64 (x.lost : Nat)) ∧ w.cell? ⟨b, off + i * 35 + 33, none⟩ = some (.int .u64 (x.e.v : Nat)) := by
  rcases L with _ | ⟨y, L⟩
  · obtain ⟨A, e, _⟩ := h
    exact ⟨A, e, fun i x hx => by simp at hx⟩
  · obtain ⟨b, off, rfl, hl, hc⟩ := h.at_ (by simp)
    refine ⟨_, rfl, fun i x hx => ⟨b, off, rfl, hl, ?_, ?_⟩⟩
    · rw [Nat.add_assoc]; exact hc i x hx 34 _ (itL_lost x)
    · rw [Nat.add_assoc]; exact hc i x hx 33 _ (itL_ver x)
def tk : List It := takeL (pushAll ⟨[], 0⟩ (evs 1 18)) 99
theorem tk_length : tk.length = 17 := by decide +kernel
theorem tk_16 : ∃ x, tk[16]? = some x ∧ x.lost = 2 := ⟨⟨noEv, 2⟩, rfl, rfl⟩
theorem tk_0 : ∃ x, tk[0]? = some x ∧ x.e.v = 1 := ⟨⟨evE 1 0, 0⟩, rfl, rfl⟩
set_option maxRecDepth 100000 in
set_option maxHeartbeats 2000000 in
theorem alive_ok (w : World) : Calls Try.prog 24 #[] w fun e w' => e = .returned (.bool true) ∧ Below w.heap.size w w' := by
  go_enter Try.func24, Try.ntmps24
  go_wp2_with fail
  refine (new_any w).mono ?_
  rintro o X1 ⟨g, rfl, hb1, hf1⟩
  have hF1 := FB.new hf1 (Nat.le_refl _)
  obtain ⟨F1, hF1e⟩ : ∃ F1 : Nat → Prop, (fun i => w.heap.size ≤ i ∧ i < X1.heap.size) = F1 := ⟨_, rfl⟩
  rw [hF1e] at hF1
  have HF := Lib.hid hF1
  have HB := Lib.hid hb1
  clear hF1 hF1e hf1 hb1
  go_wp2_with fail
  refine (watch_ok HF.out.1 (by decide) (by decide)).mono ?_
  rintro o X2 ⟨rfl, hf2, hk2⟩
  have hF2 := HF.out.grow HB.out.size hf2
  have hB2 : Below w.heap.size w X2 := HB.out.trans (hk2.below HB.out.size fun i hi => (HF.out.2 i hi).1)
  obtain ⟨F2, hF2e⟩ : ∃ F2 : Nat → Prop, (fun i => ext F1 X1 i ∧ i < X2.heap.size) = F2 := ⟨_, rfl⟩
  rw [hF2e] at hF2
  have HF2 := Lib.hid hF2
  have HB2 := Lib.hid hB2
  clear hF2 hF2e hf2 hk2 hB2 HF HB
  clear X1
  go_wp2_with fail
  refine (events_any 1 18 (by decide) X2).mono ?_
  rintro o X3 ⟨A, c, rfl, ho3, hb3⟩
  have HF3 := Lib.hid (HF2.out.below hb3)
  have HB3 := Lib.hid (below_trans HB2.out hb3)
  have HO3 := Lib.hid (show OwE X3 X2.heap.size A c (evs 1 18) from ho3)
  have HSZ := Lib.hid hb3.size
  have HF2L := Lib.hid HF2.out.2
  obtain ⟨N, hN⟩ : ∃ N, X2.heap.size = N := ⟨_, rfl⟩
  rw [hN] at HO3 HSZ HF2L
  clear ho3 hb3 HF2 HB2 hN
  clear X2
  rw [show evN 18 = 18 by decide]
  go_wp2_with fail
  have hpush := push_any HF3.out.1 A c (evs 1 18) HO3.out.rd (fun b off e hF => by have h1 := (HO3.out.base b off e).1; have h2 := (HF2L.out b hF).2; omega) (fun i hi => (HF3.out.2 i hi).2) (evs_ok 1 18 (by decide) (by decide)) (fun p hp => by
    rw [List.nil_append, List.mem_singleton] at hp
    subst hp
    decide) (by decide)
  rw [evs_length] at hpush
  refine hpush.mono ?_
  clear hpush
  rintro o X4 ⟨rfl, hf4, hk4⟩
  have HF4 := Lib.hid (HF3.out.turn hk4 hf4)
  have HB4 := Lib.hid (HB3.out.trans (hk4.below HB3.out.size fun i hi => (HF3.out.2 i hi).1))
  clear hf4 hk4 HF3 HB3 HO3 HSZ HF2L
  clear X3
  go_wp2_with fail
  refine (take_in HF4.out.1 1 (okU_n 1 (by decide)) 99 (x := pushAll ⟨[], 0⟩ (evs 1 18)) (by rw [at_push]; rfl)).mono ?_
  rintro o X5 ⟨z, rfl, hz, hf5, hk5⟩
  have hz : Its X5 z tk := hz
  obtain ⟨b, off, rfl, hbl, hcell⟩ := hz.at_ (by intro e; have := tk_length; rw [e] at this; cases this)
  have HF5 := Lib.hid (HF4.out.turn hk5 hf5)
  have HB5 := Lib.hid (HB4.out.trans (hk5.below HB4.out.size fun i hi => (HF4.out.2 i hi).1))
  obtain ⟨x16, h16, h16l⟩ := tk_16
  obtain ⟨x0, h0, h0v⟩ := tk_0
  have c16 := hcell 16 x16 h16 34 _ (itL_lost x16)
  have c0 := hcell 0 x0 h0 33 _ (itL_ver x0)
  rw [h16l] at c16
  rw [h0v] at c0
  rw [tk_length]
  clear hz hf5 hk5 hcell h16 h16l h0 h0v HF4 HB4 hbl
  clear X4
  go_wp2_with fail
  refine (take_out HF5.out.1 9 (okU_n 9 (by decide)) 1 (by rw [ids_put, ids_push]; decide)).mono ?_
  rintro o X6 ⟨rfl, rfl⟩
  clear HF5
  go_wp2_with fail
  go_ret
  exact ⟨rfl, HB5.out⟩

/-- Push of a row of events of one's own -/
theorem push_ev {B : Nat} {X : World} {F : Nat → Prop} {g last : Nat} {S : St} (h : FB B X F g S last) (hBX : B ≤ X.heap.size) {base : Nat} (hF : ∀ i, F i → i < base) {A : Option Addr} {c : Nat} {l : List Ev} (ho : OwE X base A c l)
    (hok : ∀ e ∈ l, OkEv e) (hl : ∀ p ∈ S, p.2.lost + l.length ≤ 1000000000) (hll : l.length ≤ 1000000000) :
    Calls Try.prog 14 #[.pointer (some ⟨g, 0, none⟩), .slice A l.length c] X fun e Y => e = .returned (.tuple #[]) ∧ FB B Y F g (pushS S l) last ∧ Fk F X Y ∧ Below B X Y := by
  refine (push_any h.1 A c l ho.rd (fun b off e hb => ?_) (fun i hi => (h.2 i hi).2) hok hl hll).mono ?_
  · have h1 := (ho.base b off e).1
    have h2 := hF b hb
    omega
  · rintro e Y ⟨rfl, hf, hk⟩
    exact ⟨rfl, h.turn hk hf, hk, hk.below hBX fun i hi => (h.2 i hi).1⟩
/-- Take of a watcher -/
theorem take_ev {B : Nat} {X : World} {F : Nat → Prop} {g last : Nat} {S : St} (h : FB B X F g S last) (hBX : B ≤ X.heap.size) (o : Nat) (ho : o ≤ 1000000000) (n : Int) {x : Wt} (hx : at_ S o = some x) :
    Calls Try.prog 17 #[.pointer (some ⟨g, 0, none⟩), .int .u64 (o : Nat), .int .i64 n] X fun e Y => ∃ z, e = .returned (.tuple #[z, .int .i64 0]) ∧ Its Y z (takeL x n) ∧ FB B Y F g (putS S o (takeW x n)) last ∧ Fk F X Y ∧ Below B X Y := by
  refine (take_in h.1 o (okU_n o ho) n hx).mono ?_
  rintro e Y ⟨z, rfl, hz, hf, hk⟩
  exact ⟨z, rfl, hz, h.turn hk hf, hk, hk.below hBX fun i hi => (h.2 i hi).1⟩
theorem putS_one (id : Nat) (x y : Wt) : putS [(id, x)] id y = [(id, y)] := by simp [putS]
theorem pushS_one (id : Nat) (x : Wt) (l : List Ev) : pushS [(id, x)] l = [(id, pushAll x l)] := rfl
theorem at_one (id : Nat) (x : Wt) : at_ [(id, x)] id = some x := by rw [at_cons, if_pos rfl]
end Fee
end Go.Proofs.Ytlbfjdpcnnplnaa
