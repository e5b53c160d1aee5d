/- The walk of WheelSteps. -/
import Derived.Test.YtgbahkkccpcadaaWhTwo
namespace Go.Proofs.Ytgbahkkccpcadaa
namespace WheelSteps
open Go.ChangeShapes Go.WideShapes Go.ChangeAt Go.RowKit Go.Maps
open Num Mem Words Chacha Aead Poly Quiet RowV RowS Ops EqLits Stamp Wh

/-- numbers of an argument -/
structure IsU (w : World) (A : Option Addr) (n : Nat) (U : Nat → Nat) : Prop where
  ok : ∀ i, U i < 4294967296
  rd : n = 0 ∨ ∃ b off, A = some ⟨b, off, none⟩ ∧ b < w.heap.size ∧ ∀ i, i < n → w.cell? ⟨b, off + i, none⟩ = some (.int .u32 (U i : Nat))
theorem open_us {w : World} {A : Option Addr} {n c : Nat} (h : Shp.Good w (.list (.int .u32)) [.slice A n c]) : n ≤ 9223372036854775807 ∧ ∃ U, IsU w A n U := by
  obtain ⟨h1, h2, h3, C, hC, h4⟩ := Shp.list_rows h (by show 0 < 1; omega)
  obtain ⟨U, hU⟩ := Go.Deep.choose_lt (p := fun i (u : Nat) => C i = [.int .u32 (u : Nat)] ∧ u < 4294967296) (fun i hi => by
    obtain ⟨a, ha, hw⟩ := (hC i hi).2
    obtain ⟨v, rfl, hv⟩ := nat_u32 hw
    exact ⟨v, ha, hv⟩)
  refine ⟨by have : maxLen = 9223372036854775807 := rfl; omega, fun i => if i < n then U i else 0, fun i => ?_, ?_⟩
  · split
    · rename_i hi; exact (hU i hi).2
    · omega
  · rcases h4 with h0 | ⟨b, off, e, hlt, hx⟩
    · exact .inl h0
    · refine .inr ⟨b, off, e, hlt, fun i hi => ?_⟩
      have := hx i hi 0 (.int .u32 (U i : Nat)) (by rw [(hU i hi).1]; rfl)
      rw [if_pos hi]
      simpa [Shp.Sh.size] using this
/-- two wheels, apart from each other -/
structure Tw (B : Nat) (w : World) (ga gb : Nat) (na nb : Int) (Ta Tb : List Tm) (Fa Fb : Nat → Prop) (X : World) : Prop where
  a : WB B X Fa ga na Ta
  b : WB B X Fb gb nb Tb
  ap : ∀ i, Fa i → ¬ Fb i
  bel : Below w.heap.size w X
def E2 (B : Nat) (w : World) (ga gb : Nat) (X : World) : Prop := ∃ T Fa Fb, Tw B w ga gb 0 0 T T Fa Fb X
theorem bel_fk {w X Y : World} {F : Nat → Prop} (h : Below w.heap.size w X) (hk : Fk F X Y) (hF : ∀ i, F i → w.heap.size ≤ i) : Below w.heap.size w Y :=
  h.trans ⟨hk.os, hk.tape, hk.output, hk.size, fun i hi => hk.block i (Nat.lt_of_lt_of_le hi h.size) (fun c => by have := hF i c; omega)⟩
section
variable {w X Y : World} {ga gb : Nat} {na nb n' : Int} {Ta Tb T' : List Tm} {Fa Fb : Nat → Prop}
theorem Tw.stepA (h : Tw w.heap.size w ga gb na nb Ta Tb Fa Fb X) (hY : WW Y (ext Fa X) ga n' T') (hk : Fk Fa X Y) : ∃ Fa', Tw w.heap.size w ga gb n' nb T' Tb Fa' Fb Y ∧ ∀ i, i < X.heap.size → Fa' i → Fa i := by
  obtain ⟨F2, h1, h2, _⟩ := WB.turn (B := w.heap.size) hY (fun _ h => h) hk h.a.2 h.bel.size
  refine ⟨F2, ⟨h1, ⟨h.b.1.fk hk (fun i hi c => h.ap i c hi), fun i hi => ⟨(h.b.2 i hi).1, Nat.lt_of_lt_of_le (h.b.2 i hi).2 hk.size⟩⟩, fun i hi c => h.ap i (h2 i (h.b.2 i c).2 hi) c, bel_fk h.bel hk (fun i hi => (h.a.2 i hi).1)⟩, h2⟩
theorem Tw.stepB (h : Tw w.heap.size w ga gb na nb Ta Tb Fa Fb X) (hY : WW Y (ext Fb X) gb n' T') (hk : Fk Fb X Y) : ∃ Fb', Tw w.heap.size w ga gb na n' Ta T' Fa Fb' Y ∧ ∀ i, i < X.heap.size → Fb' i → Fb i := by
  obtain ⟨F2, h1, h2, _⟩ := WB.turn (B := w.heap.size) hY (fun _ h => h) hk h.b.2 h.bel.size
  refine ⟨F2, ⟨⟨h.a.1.fk hk (fun i hi c => h.ap i hi c), fun i hi => ⟨(h.a.2 i hi).1, Nat.lt_of_lt_of_le (h.a.2 i hi).2 hk.size⟩⟩, h1, fun i hi c => h.ap i hi (h2 i (h.a.2 i hi).2 c), bel_fk h.bel hk (fun i hi => (h.b.2 i hi).1)⟩, h2⟩
end
theorem Tw.sameA {w X Y : World} {ga gb : Nat} {na nb n' : Int} {Ta Tb T' : List Tm} {Fa Fb : Nat → Prop} (h : Tw w.heap.size w ga gb na nb Ta Tb Fa Fb X) (hY : WW Y Fa ga n' T') (hk : Fk Fa X Y) : Tw w.heap.size w ga gb n' nb T' Tb Fa Fb Y :=
  ⟨⟨hY, fun i hi => ⟨(h.a.2 i hi).1, Nat.lt_of_lt_of_le (h.a.2 i hi).2 hk.size⟩⟩, ⟨h.b.1.fk hk (fun i hi c => h.ap i c hi), fun i hi => ⟨(h.b.2 i hi).1, Nat.lt_of_lt_of_le (h.b.2 i hi).2 hk.size⟩⟩, h.ap, bel_fk h.bel hk (fun i hi => (h.a.2 i hi).1)⟩
theorem Tw.sameB {w X Y : World} {ga gb : Nat} {na nb n' : Int} {Ta Tb T' : List Tm} {Fa Fb : Nat → Prop} (h : Tw w.heap.size w ga gb na nb Ta Tb Fa Fb X) (hY : WW Y Fb gb n' T') (hk : Fk Fb X Y) : Tw w.heap.size w ga gb na n' Ta T' Fa Fb Y :=
  ⟨⟨h.a.1.fk hk (fun i hi c => h.ap i hi c), fun i hi => ⟨(h.a.2 i hi).1, Nat.lt_of_lt_of_le (h.a.2 i hi).2 hk.size⟩⟩, ⟨hY, fun i hi => ⟨(h.b.2 i hi).1, Nat.lt_of_lt_of_le (h.b.2 i hi).2 hk.size⟩⟩, h.ap, bel_fk h.bel hk (fun i hi => (h.b.2 i hi).1)⟩
theorem Tw.below {w X Y : World} {ga gb : Nat} {na nb : Int} {Ta Tb : List Tm} {Fa Fb : Nat → Prop} (h : Tw w.heap.size w ga gb na nb Ta Tb Fa Fb X) (hb : Below X.heap.size X Y) : Tw w.heap.size w ga gb na nb Ta Tb Fa Fb Y :=
  ⟨⟨h.a.1.below hb, fun i hi => ⟨(h.a.2 i hi).1, Nat.lt_of_lt_of_le (h.a.2 i hi).2 hb.size⟩⟩, ⟨h.b.1.below hb, fun i hi => ⟨(h.b.2 i hi).1, Nat.lt_of_lt_of_le (h.b.2 i hi).2 hb.size⟩⟩, h.ap, below_trans h.bel hb⟩
/-- behind the first of two calls: one wheel is ahead of the other -/
def E1 (w : World) (ga gb : Nat) (q : OpV) (X : World) : Prop := ∃ T Fa Fb, Tw w.heap.size w ga gb 0 0 (setT 0 T q.o q.k q.t).2 T Fa Fb X
theorem and18 (u : Nat) (hu : u < 4294967296) : ∃ v : Nat, v ≤ 262143 ∧ bits .and .u32 (u : Int) 262143 = (v : Int) := by
  exact ⟨u &&& 262143, Nat.and_le_right, u32_and_nat u 262143 hu (by omega)⟩
/-- the world in the second loop: what was taken, what is to be appended -/
structure S2 (w : World) (ga gb : Nat) (t nb : Int) (T E R G P Tb : List Tm) (Aw : Option Addr) (cw : Nat) (Ag : Option Addr) (cg : Nat) (Fa Fb : Nat → Prop) (X : World) : Prop where
  tw : Tw w.heap.size w ga gb t nb R Tb Fa Fb X
  wrow : X.ownsRow w.heap.size 38 3 (.slice Aw E.length cw) E.length (flatT E)
  grow : X.ownsRow w.heap.size 38 3 (.slice Ag G.length cg) G.length (flatT G)
  wout : ∀ j, (Value.slice Aw E.length cw).ownBlock = some j → ¬ Fa j ∧ ¬ Fb j
  gout : ∀ j, (Value.slice Ag G.length cg).ownBlock = some j → ¬ Fa j ∧ ¬ Fb j
  ne : ∀ j, (Value.slice Aw E.length cw).ownBlock = some j → (Value.slice Ag G.length cg).ownBlock ≠ some j
  all : T = (G ++ P) ++ Tb
  gle : ∀ x ∈ G ++ P, x.t ≤ nb
def E3 (w : World) (ga gb : Nat) (t nb : Int) (T E R : List Tm) (Aw : Option Addr) (cw : Nat) (G : List Tm) (Ag : Option Addr) (cg : Nat) (X : World) : Prop := ∃ Tb Fa Fb, S2 w ga gb t nb T E R G [] Tb Aw cw Ag cg Fa Fb X
theorem own_block {X : World} {B n c : Nat} {e : TypeId} {A : Option Addr} {xs : List Value} (h : X.ownsRow B e 3 (.slice A n c) n xs) {j : Nat} (hj : (Value.slice A n c).ownBlock = some j) : ∃ cs, Whole X j e cs := by
  rcases h.2 with ⟨e1, _⟩ | ⟨g', cap, cur, e1, _, hh, _⟩
  · rw [e1] at hj; cases hj
  · rw [e1] at hj
    injection hj with hj
    have hj : g' = j := hj
    subst hj
    exact ⟨_, hh⟩
section
variable {w X Y Z : World} {ga gb : Nat} {t nb m : Int} {T E R G P Tb E1 R1 : List Tm} {Aw : Option Addr} {cw : Nat} {Ag : Option Addr} {cg : Nat} {Fa Fb : Nat → Prop}
theorem S2.adv (h : S2 w ga gb t nb T E R G [] Tb Aw cw Ag cg Fa Fb X) (hY : WW Y Fb gb m R1) (hk : Fk Fb X Y) (e : Tb = E1 ++ R1) (le : ∀ x ∈ E1, x.t ≤ m) (hm : nb ≤ m) : S2 w ga gb t m T E R G E1 R1 Aw cw Ag cg Fa Fb Y := by
  refine ⟨h.tw.sameB hY hk, own_fk' h.wrow hk (fun j hj => (h.wout j hj).2), own_fk' h.grow hk (fun j hj => (h.gout j hj).2), h.wout, h.gout, h.ne, ?_, fun x hx => ?_⟩
  · rw [h.all, e]; simp
  · rcases List.mem_append.1 hx with hx | hx
    · have := h.gle x (by rw [List.append_nil]; exact hx); omega
    · exact le x hx
theorem S2.cat (h : S2 w ga gb t nb T E R G P Tb Aw cw Ag cg Fa Fb Y) {A' : Option Addr} {c' : Nat} (g1 : Z.ownsRow w.heap.size 38 3 (.slice A' (G ++ P).length c') (G ++ P).length (flatT (G ++ P)))
    (g3 : Y.grownBy Z (Value.slice Ag G.length cg).ownBlock) (g5 : (Value.slice A' (G ++ P).length c').ownBlock = (Value.slice Ag G.length cg).ownBlock ∨ (Value.slice A' (G ++ P).length c').ownBlock = some Y.heap.size) : S2 w ga gb t nb T E R (G ++ P) [] Tb Aw cw A' c' Fa Fb Z := by
  have hb := h.tw.bel
  have hrow : ∀ j, (Value.slice Ag G.length cg).ownBlock = some j → ∃ t cs, Whole Y j t cs := fun j hj => by obtain ⟨cs, hw⟩ := own_block h.grow hj; exact ⟨_, cs, hw⟩
  refine ⟨⟨⟨h.tw.a.1.grown g3 (fun j hj => ⟨(h.gout j hj).1, hrow j hj⟩), fun i hi => ⟨(h.tw.a.2 i hi).1, Nat.lt_of_lt_of_le (h.tw.a.2 i hi).2 g3.size⟩⟩, ⟨h.tw.b.1.grown g3 (fun j hj => ⟨(h.gout j hj).2, hrow j hj⟩), fun i hi => ⟨(h.tw.b.2 i hi).1, Nat.lt_of_lt_of_le (h.tw.b.2 i hi).2 g3.size⟩⟩, h.tw.ap, ?_⟩, ?_, g1, h.wout, fun j hj => ?_, fun j hj => ?_, by rw [List.append_nil]; exact h.all, by rw [List.append_nil]; exact h.gle⟩
  · exact ⟨g3.os.trans hb.os, g3.tape.trans hb.tape, g3.output.trans hb.output, Nat.le_trans hb.size g3.size, fun i hi => (g3.block i (Nat.lt_of_lt_of_le hi hb.size) (fun e => by have := (own_lt' h.grow i e.symm).1; omega)).trans (hb.block i hi)⟩
  · refine ⟨h.wrow.1, ?_⟩
    rcases h.wrow.2 with h0 | ⟨c, cap, cur, e, hB, hh, rest⟩
    · exact .inl h0
    · have hw : Whole Y c 38 cur := hh
      exact .inr ⟨c, cap, cur, e, hB, (g3.block c hw.lt (fun e2 => h.ne c (by rw [e]; rfl) e2.symm)).trans hh, rest⟩
  · rcases g5 with e | e
    · rw [e] at hj; exact h.gout j hj
    · rw [e] at hj
      injection hj with hj
      exact ⟨fun c => by have := (h.tw.a.2 j c).2; omega, fun c => by have := (h.tw.b.2 j c).2; omega⟩
  · rcases g5 with e | e
    · rw [e]; exact h.ne j hj
    · rw [e]
      intro e2
      injection e2 with e2
      have := (own_lt' h.wrow j hj).2
      omega
end
theorem run_append_none {P : Program} (w : World) (t ty e : TypeId) (i : TypeInfo) (ht : P.underlying t = some (.slice e)) (hi : P.info? e = some i) (A : Option Addr) (n c : Nat) (hnc : n ≤ c) (hA : A = none → n = 0 ∧ c = 0) :
    (Builtin.append_ #[t, t] ty #[.slice A n c, .slice none 0 0]).run P w = .ok (.slice A n c) w := by
  cases A with
  | none =>
    obtain ⟨rfl, rfl⟩ := hA rfl
    simp [Builtin.append_, run_underlying ht, sizeOf, typeInfo, hi, Builtin.lenOf, Builtin.firstCells]
  | some a => simp [Builtin.append_, run_underlying ht, sizeOf, typeInfo, hi, Builtin.lenOf, Builtin.firstCells, hnc, storeCells]
theorem own_cap {X : World} {B n c : Nat} {e : TypeId} {A : Option Addr} {xs : List Value} (h : X.ownsRow B e 3 (.slice A n c) n xs) : n ≤ c ∧ (A = none → n = 0 ∧ c = 0) := by
  rcases h.2 with ⟨e1, e0⟩ | ⟨g', cap, cur, e1, _, _, h1, _⟩
  · injection e1 with e1 e2 e3
    exact ⟨by omega, fun _ => ⟨e0, e3⟩⟩
  · injection e1 with e1 e2 e3
    exact ⟨by omega, fun e => by rw [e] at e1; cases e1⟩
theorem wpList_catT {ops : Array Oper} {rest : List Oper} {o : Oper} {a : Act} {Q : Exit → Act → World → Prop} {w : World} {B : Nat} {G E1 : List Tm} {Ag A1 : Option Addr} {cg c1 : Nat} (hgd : o.guard = none) (s x : Operand)
    (ho : o.op = .call { callee := .builtin .append, args := #[s, x], argTypes := #[45, 45] }) (hs : a.eval s = .slice Ag G.length cg) (hx : a.eval x = .slice A1 E1.length c1)
    (own : w.ownsRow B 38 3 (.slice Ag G.length cg) G.length (flatT G)) (hr : RdT w A1 E1) (hnil : E1 = [] → A1 = none ∧ c1 = 0) (hB : B ≤ w.heap.size) (hlen : G.length + E1.length ≤ 1000000)
    (h : ∀ A' c' w', w'.ownsRow B 38 3 (.slice A' (G ++ E1).length c') (G ++ E1).length (flatT (G ++ E1)) → w.grownBy w' (Value.slice Ag G.length cg).ownBlock → ((Value.slice A' (G ++ E1).length c').ownBlock = (Value.slice Ag G.length cg).ownBlock ∨ (Value.slice A' (G ++ E1).length c').ownBlock = some w.heap.size) → wpList Try.prog ops Q rest (a.put o.dst (.slice A' (G ++ E1).length c')) w') :
    wpList Try.prog ops Q (o :: rest) a w := by
  obtain ⟨i0, hi0, hz0, hz1, hz2⟩ := info_parts infoT
  have hGc := own_cap own
  by_cases hE : E1 = []
  · subst hE
    obtain ⟨rfl, rfl⟩ := hnil rfl
    refine Lib.wpList_append_run _ hgd s x _ _ ho (.slice Ag G.length cg) (.slice none 0 0) hs hx _ _ (run_append_none w 45 o.type 38 i0 Try.underlying45 hi0 Ag G.length cg hGc.1 hGc.2) ?_
    have h2 := h Ag cg w (by rw [List.append_nil]; exact own) ⟨rfl, rfl, rfl, Nat.le_refl _, fun _ _ _ => rfl⟩ (.inl (by rw [List.append_nil]))
    rw [List.append_nil] at h2
    exact h2
  · have hE0 : 0 < E1.length := List.length_pos_iff.2 hE
    obtain ⟨g1, rfl, _, _⟩ := hr 0 (E1[0]) (List.getElem?_eq_getElem hE0)
    refine wpList_append_own_at _ hgd s x 45 ho B 38 i0 (.agg zeroT.toArray) 3 24 Try.underlying45 hi0 hz0 hz1 hz2 rfl (by decide) (.slice Ag G.length cg) G.length (flatT G) hs own ⟨g1, 0, none⟩ E1.length c1 (flatT E1) hx (flatT_length E1) (fun j u hj => ?_) (flatT_each E1) (by unfold maxLen; omega) (by omega) hB ?_
    · have hj3 : j < E1.length * 3 := by have := (List.getElem?_eq_some_iff.1 hj).1; rwa [flatT_length] at this
      have hk : j / 3 < E1.length := by omega
      obtain ⟨g2, e, _, hrg⟩ := hr (j / 3) _ (List.getElem?_eq_getElem hk)
      injection e with e
      injection e with e
      subst e
      rw [addr_add, Nat.zero_add]
      have e3 : j / 3 * 3 + j % 3 = j := by omega
      have := hrg (j % 3) u (by rw [← flatT_get E1 (j / 3) (j % 3) _ (List.getElem?_eq_getElem hk) (Nat.mod_lt _ (by omega)), e3]; exact hj)
      rwa [e3] at this
    · intro v' w' q1 q2 _ q4
      rw [← flatT_append, ← List.length_append] at q1
      obtain ⟨A', c', rfl⟩ : ∃ A' c', v' = .slice A' (G ++ E1).length c' := by
        rcases q1.2 with ⟨e, e0⟩ | ⟨g, cap, cur, e, _⟩
        · rw [List.length_append] at e0; omega
        · exact ⟨_, _, e⟩
      exact h A' c' w' q1 q2 q4
theorem split_one {T E R : List Tm} {t : Int} (e : T = E ++ R) (h1 : ∀ x ∈ E, x.t ≤ t) (h2 : ∀ x ∈ R, t < x.t) : E = T.filter (fun x => decide (x.t ≤ t)) ∧ R = T.filter (fun x => !decide (x.t ≤ t)) := by
  subst e
  rw [List.filter_append, List.filter_append]
  have a1 : E.filter (fun x => decide (x.t ≤ t)) = E := List.filter_eq_self.2 (fun x hx => by simpa using h1 x hx)
  have a2 : R.filter (fun x => decide (x.t ≤ t)) = [] := List.filter_eq_nil_iff.2 (fun x hx => by have := h2 x hx; simp; omega)
  have a3 : E.filter (fun x => !decide (x.t ≤ t)) = [] := List.filter_eq_nil_iff.2 (fun x hx => by have := h1 x hx; simp; omega)
  have a4 : R.filter (fun x => !decide (x.t ≤ t)) = R := List.filter_eq_self.2 (fun x hx => by have := h2 x hx; simp; omega)
  rw [a1, a2, a3, a4, List.append_nil, List.nil_append]
  exact ⟨rfl, rfl⟩
set_option maxRecDepth 100000 in
set_option maxHeartbeats 4000000 in
theorem walk0 (A : Option Addr) (N c : Nat) (Q : Nat → OpV) (A2 : Option Addr) (M c2 : Nat) (U : Nat → Nat) (t : Int) (w : World) (hq : IsOps w A N Q) (hu : IsU w A2 M U) (hN : N ≤ 9223372036854775807) (hM : M ≤ 9223372036854775807) :
    Calls Try.prog 6 #[.slice A N c, .slice A2 M c2, .int .i64 t] w fun e w' => e = .returned (.bool true) ∧ Below w.heap.size w w' := by
  have HQ := Lib.hid hq
  have HU := Lib.hid hu
  have HN := Lib.hid (new_any 0 ⟨by omega, by omega⟩ w)
  have HAL := Lib.hid alive_ok
  clear hq hu
  go_enter Try.func6, Try.ntmps6
  go_wp2_with fail
  refine HN.out.mono ?_
  rintro e w1 ⟨ga, rfl, hb1, ha⟩
  have HN2 := Lib.hid (new_any 0 ⟨by omega, by omega⟩ w1)
  have HB1 := Lib.hid hb1
  have HA := Lib.hid ha
  clear hb1 ha HN
  go_wp2_with fail
  refine HN2.out.mono ?_
  rintro e w2 ⟨gb, rfl, hb2, hb⟩
  have H2 := Lib.hid (show E2 w.heap.size w ga gb w2 from by
    obtain ⟨Fa, hFa, hFa2⟩ := WB.new HA.out (Nat.le_refl _)
    obtain ⟨Fb, hFb, hFb2⟩ := WB.new (B := w.heap.size) hb HB1.out.size
    exact ⟨[], Fa, Fb, ⟨hFa.1.below hb2, fun i hi => ⟨(hFa.2 i hi).1, Nat.lt_of_lt_of_le (hFa.2 i hi).2 hb2.size⟩⟩, hFb, fun i h1 h2 => by have := (hFa.2 i h1).2; have := hFb2 i h2; omega, below_trans HB1.out hb2⟩)
  clear hb2 hb HA HN2 HB1
  by_cases h64 : 64 < N
  · have d1 : decide ((64 : Int) < (N : Int)) = true := decide_eq_true (by omega)
    have HC := Lib.hid (HAL.out w2)
    go_wp2_with fail
    refine HC.out.mono ?_
    rintro e w3 ⟨rfl, hb3⟩
    have HB3 := Lib.hid hb3
    clear hb3
    go_wp2_with fail
    go_ret
    obtain ⟨T, Fa, Fb, h⟩ := H2.out
    exact ⟨rfl, below_trans h.bel HB3.out⟩
  have d1 : decide ((64 : Int) < (N : Int)) = false := decide_eq_false (by omega)
  by_cases ht0 : t < 0
  · have d2 : decide (t < 0) = true := decide_eq_true ht0
    have HC := Lib.hid (HAL.out w2)
    go_wp2_with fail
    refine HC.out.mono ?_
    rintro e w3 ⟨rfl, hb3⟩
    have HB3 := Lib.hid hb3
    clear hb3
    go_wp2_with fail
    go_ret
    obtain ⟨T, Fa, Fb, h⟩ := H2.out
    exact ⟨rfl, below_trans h.bel HB3.out⟩
  have d2 : decide (t < 0) = false := decide_eq_false ht0
  by_cases ht1 : 1099511627776 < t
  · have d3 : decide (1099511627776 < t) = true := decide_eq_true ht1
    have HC := Lib.hid (HAL.out w2)
    go_wp2_with fail
    refine HC.out.mono ?_
    rintro e w3 ⟨rfl, hb3⟩
    have HB3 := Lib.hid hb3
    clear hb3
    go_wp2_with fail
    go_ret
    obtain ⟨T, Fa, Fb, h⟩ := H2.out
    exact ⟨rfl, below_trans h.bel HB3.out⟩
  have d3 : decide (1099511627776 < t) = false := decide_eq_false ht1
  go_wp2_with fail
  go_loopw [11] (fun i X => ∃ k : Nat, k ≤ N ∧ i = .int .i64 k ∧ E2 w.heap.size w ga gb X) (fun i _ => N - (intOf i).toNat)
  case atStart => exact ⟨0, Nat.zero_le _, rfl, H2.out⟩
  case round =>
    obtain ⟨k, hk, rfl, hW⟩ := hrel
    have HW := Lib.hid hW
    clear hW H2
    by_cases hlt : k < N
    · have hok := HQ.out.ok k hlt
      have HOK := Lib.hid hok
      have HBW := Lib.hid (show Below w.heap.size w wr from by obtain ⟨T, Fa, Fb, h⟩ := HW.out; exact h.bel)
      obtain ⟨b, off, rfl, hrg⟩ := HQ.out.range (Below.refl _ _) hlt
      have hbl : b < w.heap.size := by
        rcases HQ.out.rd with h | ⟨b', off', e, hl, _⟩
        · omega
        · injection e with e; injection e with e; rw [e]; exact hl
      have HC1 := Lib.hid (show ∀ V, Below w.heap.size w V → V.cell? ⟨b, off + k * 4 + 1, none⟩ = some (.int .i64 (Q k).o) from fun V hV => (hV.cell (p := ⟨b, off + k * 4 + 1, none⟩) hbl).trans (hrg 1 _ rfl))
      have HC2 := Lib.hid (show ∀ V, Below w.heap.size w V → V.cell? ⟨b, off + k * 4 + 2, none⟩ = some (.int .i64 (Q k).k) from fun V hV => (hV.cell (p := ⟨b, off + k * 4 + 2, none⟩) hbl).trans (hrg 2 _ rfl))
      have HC3 := Lib.hid (show ∀ V, Below w.heap.size w V → V.cell? ⟨b, off + k * 4 + 3, none⟩ = some (.int .i64 (Q k).t) from fun V hV => (hV.cell (p := ⟨b, off + k * 4 + 3, none⟩) hbl).trans (hrg 3 _ rfl))
      obtain ⟨q, hqk⟩ : ∃ q, Q k = q := ⟨_, rfl⟩
      rw [hqk] at HOK HC1 HC2 HC3
      clear hok hrg hqk hbl
      go_upto_region 8 with fail
      refine region_drew (fun V => Below w.heap.size w V) (by kernel_rfl) HBW.out.drew (fun hS => ?_)
      refine take 0 _ rfl (by kernel_rfl) (by kernel_rfl) (by kernel_rfl) (fun _ _ _ h => h) (by rfl) hS (by intro w _; go_simp; with_reducible rfl) ?_
      try simp only [Act.put, List.setIfInBounds_toArray, List.set_cons_zero, List.set_cons_succ]
      refine take 1 _ rfl (by kernel_rfl) (by kernel_rfl) (by kernel_rfl) (fun _ _ _ h => h) (by rfl) hS (by intro w _; go_simp; with_reducible rfl) ?_
      try simp only [Act.put, List.setIfInBounds_toArray, List.set_cons_zero, List.set_cons_succ]
      refine take 2 _ rfl (by kernel_rfl) (by kernel_rfl) (by kernel_rfl) (fun _ _ _ h => h) (by rfl) hS (by intro w _; go_simp; with_reducible rfl) ?_
      try simp only [Act.put, List.setIfInBounds_toArray, List.set_cons_zero, List.set_cons_succ]
      refine take 3 _ rfl (by kernel_rfl) (by kernel_rfl) (by kernel_rfl) (fun _ _ _ h => h) (by rfl) hS (by intro w _; go_simp; with_reducible rfl) ?_
      try simp only [Act.put, List.setIfInBounds_toArray, List.set_cons_zero, List.set_cons_succ]
      refine take 4 _ rfl (by kernel_rfl) (by kernel_rfl) (by kernel_rfl) (fun _ _ _ h => h) (by rfl) hS (by intro w _; go_simp; with_reducible rfl) ?_
      try simp only [Act.put, List.setIfInBounds_toArray, List.set_cons_zero, List.set_cons_succ]
      refine take 5 _ rfl (by kernel_rfl) (by kernel_rfl) (by kernel_rfl) (fun _ _ _ h => h) (by rfl) hS (by intro w hw; have hcl := HC1.out w hw; go_simp; with_reducible rfl) ?_
      try simp only [Act.put, List.setIfInBounds_toArray, List.set_cons_zero, List.set_cons_succ]
      refine take 6 _ rfl (by kernel_rfl) (by kernel_rfl) (by kernel_rfl) (fun _ _ _ h => h) (by rfl) hS (by intro w _; go_simp; with_reducible rfl) ?_
      try simp only [Act.put, List.setIfInBounds_toArray, List.set_cons_zero, List.set_cons_succ]
      refine take 7 _ rfl (by kernel_rfl) (by kernel_rfl) (by kernel_rfl) (fun _ _ _ h => h) (by rfl) hS (by intro w _; go_simp; with_reducible rfl) ?_
      try simp only [Act.put, List.setIfInBounds_toArray, List.set_cons_zero, List.set_cons_succ]
      refine take 8 _ rfl (by kernel_rfl) (by kernel_rfl) (by kernel_rfl) (fun _ _ _ h => h) (by rfl) hS (by intro w _; go_simp; with_reducible rfl) ?_
      try simp only [Act.put, List.setIfInBounds_toArray, List.set_cons_zero, List.set_cons_succ]
      refine take 9 _ rfl (by kernel_rfl) (by kernel_rfl) (by kernel_rfl) (fun _ _ _ h => h) (by rfl) hS (by intro w _; go_simp; with_reducible rfl) ?_
      try simp only [Act.put, List.setIfInBounds_toArray, List.set_cons_zero, List.set_cons_succ]
      refine take 10 _ rfl (by kernel_rfl) (by kernel_rfl) (by kernel_rfl) (fun _ _ _ h => h) (by rfl) hS (by intro w hw; have hcl := HC2.out w hw; go_simp; with_reducible rfl) ?_
      try simp only [Act.put, List.setIfInBounds_toArray, List.set_cons_zero, List.set_cons_succ]
      refine take 11 _ rfl (by kernel_rfl) (by kernel_rfl) (by kernel_rfl) (fun _ _ _ h => h) (by rfl) hS (by intro w _; go_simp; with_reducible rfl) ?_
      try simp only [Act.put, List.setIfInBounds_toArray, List.set_cons_zero, List.set_cons_succ]
      refine take 12 _ rfl (by kernel_rfl) (by kernel_rfl) (by kernel_rfl) (fun _ _ _ h => h) (by rfl) hS (by intro w _; go_simp; with_reducible rfl) ?_
      try simp only [Act.put, List.setIfInBounds_toArray, List.set_cons_zero, List.set_cons_succ]
      refine take 13 _ rfl (by kernel_rfl) (by kernel_rfl) (by kernel_rfl) (fun _ _ _ h => h) (by rfl) hS (by intro w _; go_simp; with_reducible rfl) ?_
      try simp only [Act.put, List.setIfInBounds_toArray, List.set_cons_zero, List.set_cons_succ]
      refine take 14 _ rfl (by kernel_rfl) (by kernel_rfl) (by kernel_rfl) (fun _ _ _ h => h) (by rfl) hS (by intro w _; go_simp; with_reducible rfl) ?_
      try simp only [Act.put, List.setIfInBounds_toArray, List.set_cons_zero, List.set_cons_succ]
      refine take 15 _ rfl (by kernel_rfl) (by kernel_rfl) (by kernel_rfl) (fun _ _ _ h => h) (by rfl) hS (by intro w hw; have hcl := HC3.out w hw; go_simp; with_reducible rfl) ?_
      try simp only [Act.put, List.setIfInBounds_toArray, List.set_cons_zero, List.set_cons_succ]
      refine alone 16 rfl (by kernel_rfl) (by rfl) ?_
      intro K hK
      go_simp
      obtain ⟨T, Fa, Fb, hTw⟩ := HW.out
      have hTw := hTw.below (Below.refl wr.heap.size wr).drew
      have HTW := Lib.hid hTw
      refine (set_any hTw.a.1 q.o q.k q.t HOK.out.o HOK.out.k).mono ?_
      rintro e w3 ⟨rfl, hw3, hk3⟩
      obtain ⟨Fa3, hTw3, _⟩ := hTw.stepA hw3 hk3
      have HE := Lib.hid (show E1 w ga gb q w3 from ⟨T, Fa3, Fb, hTw3⟩)
      have HB3 := Lib.hid hTw3.bel
      clear hTw hw3 hk3 hTw3 HTW HBW HW
      refine hK.out _ _ (by exact HB3.out) ?_
      clear hK K
      try simp only [Act.put, List.setIfInBounds_toArray, List.set_cons_zero, List.set_cons_succ]
      refine region_end (by kernel_rfl) ?_
      go_upto_region 9 with fail
      refine region_drew (fun V => Below w.heap.size w V) (by kernel_rfl) HB3.out.drew (fun hS => ?_)
      refine take 0 _ rfl (by kernel_rfl) (by kernel_rfl) (by kernel_rfl) (fun _ _ _ h => h) (by rfl) hS (by intro w _; go_simp; with_reducible rfl) ?_
      try simp only [Act.put, List.setIfInBounds_toArray, List.set_cons_zero, List.set_cons_succ]
      refine take 1 _ rfl (by kernel_rfl) (by kernel_rfl) (by kernel_rfl) (fun _ _ _ h => h) (by rfl) hS (by intro w _; go_simp; with_reducible rfl) ?_
      try simp only [Act.put, List.setIfInBounds_toArray, List.set_cons_zero, List.set_cons_succ]
      refine take 2 _ rfl (by kernel_rfl) (by kernel_rfl) (by kernel_rfl) (fun _ _ _ h => h) (by rfl) hS (by intro w _; go_simp; with_reducible rfl) ?_
      try simp only [Act.put, List.setIfInBounds_toArray, List.set_cons_zero, List.set_cons_succ]
      refine take 3 _ rfl (by kernel_rfl) (by kernel_rfl) (by kernel_rfl) (fun _ _ _ h => h) (by rfl) hS (by intro w _; go_simp; with_reducible rfl) ?_
      try simp only [Act.put, List.setIfInBounds_toArray, List.set_cons_zero, List.set_cons_succ]
      refine take 4 _ rfl (by kernel_rfl) (by kernel_rfl) (by kernel_rfl) (fun _ _ _ h => h) (by rfl) hS (by intro w _; go_simp; with_reducible rfl) ?_
      try simp only [Act.put, List.setIfInBounds_toArray, List.set_cons_zero, List.set_cons_succ]
      refine take 5 _ rfl (by kernel_rfl) (by kernel_rfl) (by kernel_rfl) (fun _ _ _ h => h) (by rfl) hS (by intro w hw; have hcl := HC1.out w hw; go_simp; with_reducible rfl) ?_
      try simp only [Act.put, List.setIfInBounds_toArray, List.set_cons_zero, List.set_cons_succ]
      refine take 6 _ rfl (by kernel_rfl) (by kernel_rfl) (by kernel_rfl) (fun _ _ _ h => h) (by rfl) hS (by intro w _; go_simp; with_reducible rfl) ?_
      try simp only [Act.put, List.setIfInBounds_toArray, List.set_cons_zero, List.set_cons_succ]
      refine take 7 _ rfl (by kernel_rfl) (by kernel_rfl) (by kernel_rfl) (fun _ _ _ h => h) (by rfl) hS (by intro w _; go_simp; with_reducible rfl) ?_
      try simp only [Act.put, List.setIfInBounds_toArray, List.set_cons_zero, List.set_cons_succ]
      refine take 8 _ rfl (by kernel_rfl) (by kernel_rfl) (by kernel_rfl) (fun _ _ _ h => h) (by rfl) hS (by intro w _; go_simp; with_reducible rfl) ?_
      try simp only [Act.put, List.setIfInBounds_toArray, List.set_cons_zero, List.set_cons_succ]
      refine take 9 _ rfl (by kernel_rfl) (by kernel_rfl) (by kernel_rfl) (fun _ _ _ h => h) (by rfl) hS (by intro w _; go_simp; with_reducible rfl) ?_
      try simp only [Act.put, List.setIfInBounds_toArray, List.set_cons_zero, List.set_cons_succ]
      refine take 10 _ rfl (by kernel_rfl) (by kernel_rfl) (by kernel_rfl) (fun _ _ _ h => h) (by rfl) hS (by intro w hw; have hcl := HC2.out w hw; go_simp; with_reducible rfl) ?_
      try simp only [Act.put, List.setIfInBounds_toArray, List.set_cons_zero, List.set_cons_succ]
      refine take 11 _ rfl (by kernel_rfl) (by kernel_rfl) (by kernel_rfl) (fun _ _ _ h => h) (by rfl) hS (by intro w _; go_simp; with_reducible rfl) ?_
      try simp only [Act.put, List.setIfInBounds_toArray, List.set_cons_zero, List.set_cons_succ]
      refine take 12 _ rfl (by kernel_rfl) (by kernel_rfl) (by kernel_rfl) (fun _ _ _ h => h) (by rfl) hS (by intro w _; go_simp; with_reducible rfl) ?_
      try simp only [Act.put, List.setIfInBounds_toArray, List.set_cons_zero, List.set_cons_succ]
      refine take 13 _ rfl (by kernel_rfl) (by kernel_rfl) (by kernel_rfl) (fun _ _ _ h => h) (by rfl) hS (by intro w _; go_simp; with_reducible rfl) ?_
      try simp only [Act.put, List.setIfInBounds_toArray, List.set_cons_zero, List.set_cons_succ]
      refine take 14 _ rfl (by kernel_rfl) (by kernel_rfl) (by kernel_rfl) (fun _ _ _ h => h) (by rfl) hS (by intro w _; go_simp; with_reducible rfl) ?_
      try simp only [Act.put, List.setIfInBounds_toArray, List.set_cons_zero, List.set_cons_succ]
      refine take 15 _ rfl (by kernel_rfl) (by kernel_rfl) (by kernel_rfl) (fun _ _ _ h => h) (by rfl) hS (by intro w hw; have hcl := HC3.out w hw; go_simp; with_reducible rfl) ?_
      try simp only [Act.put, List.setIfInBounds_toArray, List.set_cons_zero, List.set_cons_succ]
      refine alone 16 rfl (by kernel_rfl) (by rfl) ?_
      intro K hK
      go_simp
      obtain ⟨T, Fa, Fb, hTw⟩ := HE.out
      have hTw := hTw.below (Below.refl w3.heap.size w3).drew
      refine (set_any hTw.b.1 q.o q.k q.t HOK.out.o HOK.out.k).mono ?_
      rintro e w4 ⟨rfl, hw4, hk4⟩
      obtain ⟨Fb4, hTw4, _⟩ := hTw.stepB hw4 hk4
      have HE4 := Lib.hid (show E2 w.heap.size w ga gb w4 from ⟨_, Fa, Fb4, hTw4⟩)
      have HB4 := Lib.hid hTw4.bel
      clear hTw hw4 hk4 hTw4 HE HB3
      refine hK.out _ _ (by exact HB4.out) ?_
      clear hK K
      try simp only [Act.put, List.setIfInBounds_toArray, List.set_cons_zero, List.set_cons_succ]
      refine region_end (by kernel_rfl) ?_
      go_wp2_with fail
      go_round
      case rel => exact ⟨k + 1, by omega, by go_num, HE4.out⟩
      case measure => simp only [intOf]; omega
    · obtain rfl : k = N := by omega
      clear HQ
      obtain ⟨T, Fa, Fb, hTw⟩ := HW.out
      have HADV := Lib.hid (advance_any hTw.a.1 (fun i hi => (hTw.a.2 i hi).2) t ⟨by omega, by omega⟩ (by omega))
      have HTW := Lib.hid hTw
      clear hTw HW
      go_wp2_with fail
      refine HADV.out.mono ?_
      rintro e w5 ⟨E, R, Aw, cw, rfl, hER, hEle, hRlt, hro, hw5, hk5, _⟩
      have HE3 := Lib.hid (show E3 w ga gb t 0 T E R Aw cw [] none 0 w5 from by
        have h5 := HTW.out.sameA hw5 hk5
        have hbs := HTW.out.bel.size
        refine ⟨T, Fa, Fb, h5, own_more' hro hbs, ⟨rfl, .inl ⟨rfl, rfl⟩⟩, fun j e => ?_, fun j e => (by cases e), fun j _ e => (by cases e), rfl, fun x hx => (by cases hx)⟩
        have hj := own_lt' hro j e
        exact ⟨fun c => by have := (HTW.out.a.2 j c).2; omega, fun c => by have := (HTW.out.b.2 j c).2; omega⟩)
      have HER := Lib.hid hER
      have HEL := Lib.hid hEle
      have HRL := Lib.hid hRlt
      have hT64 : T.length ≤ 64 := HTW.out.a.1.good.room
      have HT64 := Lib.hid hT64
      clear hER hEle hRlt hro hw5 hk5 HADV HTW hT64
      obtain ⟨n, hn⟩ : ∃ n, E.length = n := ⟨_, rfl⟩
      rw [hn]
      have HN := Lib.hid hn
      clear hn
      go_wp2_with fail
      go_loopw [14, 15, 16] (fun got nw j X => ∃ (i : Nat) (nb : Int) (G : List Tm) (Ag : Option Addr) (cg : Nat), i ≤ M ∧ i ≤ 100 ∧ 0 ≤ nb ∧ nb ≤ t ∧ nb ≤ i * 262143 ∧ j = .int .i64 i ∧ nw = .int .i64 nb ∧ got = .slice Ag G.length cg ∧ E3 w ga gb t nb T E R Aw cw G Ag cg X) (fun _ _ j _ => M - (intOf j).toNat)
      case atStart => exact ⟨0, 0, [], none, 0, Nat.zero_le _, by omega, by omega, by omega, by omega, rfl, rfl, rfl, HE3.out⟩
      case round =>
        obtain ⟨i, nb, G, Ag, cg, hiM, hi100, hnb0, hnbt, hnbi, rfl, rfl, rfl, hS2⟩ := hrel
        have HS2 := Lib.hid hS2
        clear hS2 HE3
        by_cases hlt : i < M
        · by_cases h100 : i < 100
          · obtain ⟨b, off, rfl, hbl, hrd⟩ : ∃ b off, A2 = some ⟨b, off, none⟩ ∧ b < w.heap.size ∧ ∀ i, i < M → w.cell? ⟨b, off + i, none⟩ = some (.int .u32 (U i : Nat)) := by
              rcases HU.out.rd with h | h
              · omega
              · exact h
            have HBW := Lib.hid (show Below w.heap.size w wr from by obtain ⟨_, _, _, h⟩ := HS2.out; exact h.tw.bel)
            have cu : wr.cell? ⟨b, off + i, none⟩ = some (.int .u32 (U i : Nat)) := (HBW.out.cell (p := ⟨b, off + i, none⟩) hbl).trans (hrd i hlt)
            have hU := HU.out.ok i
            have HMM := Lib.hid (show ∃ m, wrap64 (nb + wrap64 (bits .and .u32 ((U i : Nat) : Int) 262143)) = m ∧ 0 ≤ m ∧ nb ≤ m ∧ m ≤ nb + 262143 from by
              obtain ⟨v, hv1, hv⟩ := and18 (U i) hU
              refine ⟨nb + (v : Int), ?_, by omega, by omega, by omega⟩
              rw [hv]
              unfold wrap64
              omega)
            clear hrd
            go_upto_region 17 with fail
            obtain ⟨m, hm, hm0, hm2, hm3⟩ := HMM.out
            rw [hm]
            have hmi : m ≤ ((i + 1 : Nat) : Int) * 262143 := by omega
            clear hm cu HMM
            by_cases hmt : t < m
            · have d4 : decide (t < m) = true := decide_eq_true hmt
              obtain ⟨Tb, Fa9, Fb9, hs9⟩ := HS2.out
              have HADV := Lib.hid (advance_any hs9.tw.b.1 (fun i hi => (hs9.tw.b.2 i hi).2) t ⟨by omega, by omega⟩ (by omega))
              have HS9 := Lib.hid hs9
              clear hs9 HS2
              go_wp2_with fail
              refine HADV.out.mono ?_
              rintro e w8 ⟨E8, R8, A8, c8, rfl, hER8, hle8, hRl8, hro8, hw8, hk8, hnil8⟩
              have HS8 := Lib.hid (HS9.out.adv hw8 hk8 hER8 hle8 hnbt)
              have hlen8 : G.length + E8.length ≤ 64 := by
                have h := congrArg List.length HS8.out.all
                rw [List.length_append, List.length_append] at h
                have := HT64.out
                omega
              have HRD := Lib.hid (RdT.own hro8)
              have HNL := Lib.hid hnil8
              have HBS := Lib.hid HS8.out.tw.bel.size
              have hs1 := split_one HS8.out.all HS8.out.gle hRl8
              have hs2 := split_one HER.out HEL.out HRL.out
              have HG := Lib.hid (show G ++ E8 = E from hs1.1.trans hs2.1.symm)
              have HRR := Lib.hid (show R8 = R from hs1.2.trans hs2.2.symm)
              clear hER8 hle8 hRl8 hw8 hk8 HADV HS9 hro8 hnil8 hs1 hs2
              go_wp2_with (at_builtin; refine wpList_catT rfl _ _ rfl rfl rfl HS8.out.grow HRD.out HNL.out HBS.out (by omega) ?_; intro A9 c9 w9 q1 q2 q4)
              have hq9 := HS8.out.cat q1 q2 q4
              rw [HG.out, HRR.out] at hq9
              have HGN := Lib.hid (show G.length + E8.length = n from by rw [← List.length_append, HG.out, HN.out])
              rw [HGN.out]
              have HQ9 := Lib.hid hq9
              have HAW := Lib.hid (HAL.out w9)
              clear q1 q2 q4 HS8 HRD HNL HBS hq9
              go_wp2_with fail
              refine HAW.out.mono ?_
              rintro e w10 ⟨rfl, hb10⟩
              have hRG := RdT.own HQ9.out.grow
              have hRW := RdT.own HQ9.out.wrow
              have hE64 : E.length ≤ 1000 := by have := congrArg List.length HER.out; rw [List.length_append] at this; have := HT64.out; omega
              have HA1 := Lib.hid (as_any c9 (hRG.below hb10) hE64)
              have HRW := Lib.hid (hRW.below hb10)
              have HTW := Lib.hid (HQ9.out.tw.below hb10)
              have HE64 := Lib.hid hE64
              rw [HN.out] at HA1
              clear hRG hRW hb10 hE64 HQ9 HAW
              go_wp2_with fail
              refine HA1.out.mono ?_
              rintro e w11 ⟨A11, c11, rfl, hr11, hb11⟩
              have HA2 := Lib.hid (as_any cw (HRW.out.below hb11) HE64.out)
              have HTW1 := Lib.hid (HTW.out.below hb11)
              have HR11 := Lib.hid (RdT.own (show w11.ownsRow _ _ 3 (.slice A11 E.length c11) E.length (flatT E) from HN.out.symm ▸ hr11))
              rw [HN.out] at HA2
              clear hr11 hb11 HA1 HRW HTW
              go_wp2_with fail
              refine HA2.out.mono ?_
              rintro e w12 ⟨A12, c12, rfl, hr12, hb12⟩
              have HSM := Lib.hid (same_any c11 c12 (HR11.out.below hb12) (RdT.own (show w12.ownsRow _ _ 3 (.slice A12 E.length c12) E.length (flatT E) from HN.out.symm ▸ hr12)) HE64.out HE64.out)
              rw [HN.out, decide_eq_true rfl] at HSM
              have HTW2 := Lib.hid (HTW1.out.below hb12)
              clear hr12 hb12 HA2 HTW1 HR11
              go_wp2_with fail
              refine HSM.out.mono ?_
              rintro e w13 ⟨rfl, hb13⟩
              have HTW3 := Lib.hid (HTW2.out.below hb13)
              have HCA := Lib.hid (count_any HTW3.out.a.1)
              have HCB := Lib.hid (count_any HTW3.out.b.1)
              clear hb13 HSM HTW2
              go_wp2_with fail
              refine HCA.out.mono ?_
              rintro e w14 ⟨rfl, rfl⟩
              go_wp2_with fail
              refine HCB.out.mono ?_
              rintro e w14 ⟨rfl, rfl⟩
              go_wp2_with fail
              go_ret
              exact ⟨rfl, HTW3.out.bel⟩
            · have d4 : decide (t < m) = false := decide_eq_false hmt
              obtain ⟨Tb, Fa9, Fb9, hs9⟩ := HS2.out
              have HADV := Lib.hid (advance_any hs9.tw.b.1 (fun i hi => (hs9.tw.b.2 i hi).2) m ⟨by omega, by omega⟩ hm2)
              have HS9 := Lib.hid hs9
              clear hs9 HS2
              go_wp2_with fail
              refine HADV.out.mono ?_
              rintro e w6 ⟨E1, R1, A1, c1, rfl, hER1, hle1, hRl1, hro1, hw6, hk6, hnil1⟩
              have HS6 := Lib.hid (HS9.out.adv hw6 hk6 hER1 hle1 hm2)
              clear hER1 hle1 hRl1 hw6 hk6 HADV HS9
              have hlen : G.length + E1.length ≤ 64 := by
                have h := congrArg List.length HS6.out.all
                rw [List.length_append, List.length_append] at h
                have := HT64.out
                omega
              have HRD := Lib.hid (RdT.own hro1)
              have HNL := Lib.hid hnil1
              have HBS := Lib.hid HS6.out.tw.bel.size
              clear hro1 hnil1
              go_wp2_with (at_builtin; refine wpList_catT rfl _ _ rfl rfl rfl HS6.out.grow HRD.out HNL.out HBS.out (by omega) ?_; intro A' c' w7 q1 q2 q4)
              have HQ7 := Lib.hid (HS6.out.cat q1 q2 q4)
              clear q1 q2 q4 HS6 HRD HNL HBS
              go_round
              case rel => exact ⟨i + 1, m, G ++ E1, A', c', by omega, by omega, hm0, by omega, hmi, by go_num, rfl, by rw [List.length_append], R1, Fa9, Fb9, HQ7.out⟩
              case measure => simp only [intOf]; omega
          · have d4 : decide ((i : Int) < 100) = false := decide_eq_false (by omega)
            obtain ⟨Tb, Fa9, Fb9, hs9⟩ := HS2.out
            have HADV := Lib.hid (advance_any hs9.tw.b.1 (fun i hi => (hs9.tw.b.2 i hi).2) t ⟨by omega, by omega⟩ (by omega))
            have HS9 := Lib.hid hs9
            clear hs9 HS2
            go_wp2_with fail
            refine HADV.out.mono ?_
            rintro e w8 ⟨E8, R8, A8, c8, rfl, hER8, hle8, hRl8, hro8, hw8, hk8, hnil8⟩
            have HS8 := Lib.hid (HS9.out.adv hw8 hk8 hER8 hle8 hnbt)
            have hlen8 : G.length + E8.length ≤ 64 := by
              have h := congrArg List.length HS8.out.all
              rw [List.length_append, List.length_append] at h
              have := HT64.out
              omega
            have HRD := Lib.hid (RdT.own hro8)
            have HNL := Lib.hid hnil8
            have HBS := Lib.hid HS8.out.tw.bel.size
            have hs1 := split_one HS8.out.all HS8.out.gle hRl8
            have hs2 := split_one HER.out HEL.out HRL.out
            have HG := Lib.hid (show G ++ E8 = E from hs1.1.trans hs2.1.symm)
            have HRR := Lib.hid (show R8 = R from hs1.2.trans hs2.2.symm)
            clear hER8 hle8 hRl8 hw8 hk8 HADV HS9 hro8 hnil8 hs1 hs2
            go_wp2_with (at_builtin; refine wpList_catT rfl _ _ rfl rfl rfl HS8.out.grow HRD.out HNL.out HBS.out (by omega) ?_; intro A9 c9 w9 q1 q2 q4)
            have hq9 := HS8.out.cat q1 q2 q4
            rw [HG.out, HRR.out] at hq9
            have HGN := Lib.hid (show G.length + E8.length = n from by rw [← List.length_append, HG.out, HN.out])
            rw [HGN.out]
            have HQ9 := Lib.hid hq9
            have HAW := Lib.hid (HAL.out w9)
            clear q1 q2 q4 HS8 HRD HNL HBS hq9
            go_wp2_with fail
            refine HAW.out.mono ?_
            rintro e w10 ⟨rfl, hb10⟩
            have hRG := RdT.own HQ9.out.grow
            have hRW := RdT.own HQ9.out.wrow
            have hE64 : E.length ≤ 1000 := by have := congrArg List.length HER.out; rw [List.length_append] at this; have := HT64.out; omega
            have HA1 := Lib.hid (as_any c9 (hRG.below hb10) hE64)
            have HRW := Lib.hid (hRW.below hb10)
            have HTW := Lib.hid (HQ9.out.tw.below hb10)
            have HE64 := Lib.hid hE64
            rw [HN.out] at HA1
            clear hRG hRW hb10 hE64 HQ9 HAW
            go_wp2_with fail
            refine HA1.out.mono ?_
            rintro e w11 ⟨A11, c11, rfl, hr11, hb11⟩
            have HA2 := Lib.hid (as_any cw (HRW.out.below hb11) HE64.out)
            have HTW1 := Lib.hid (HTW.out.below hb11)
            have HR11 := Lib.hid (RdT.own (show w11.ownsRow _ _ 3 (.slice A11 E.length c11) E.length (flatT E) from HN.out.symm ▸ hr11))
            rw [HN.out] at HA2
            clear hr11 hb11 HA1 HRW HTW
            go_wp2_with fail
            refine HA2.out.mono ?_
            rintro e w12 ⟨A12, c12, rfl, hr12, hb12⟩
            have HSM := Lib.hid (same_any c11 c12 (HR11.out.below hb12) (RdT.own (show w12.ownsRow _ _ 3 (.slice A12 E.length c12) E.length (flatT E) from HN.out.symm ▸ hr12)) HE64.out HE64.out)
            rw [HN.out, decide_eq_true rfl] at HSM
            have HTW2 := Lib.hid (HTW1.out.below hb12)
            clear hr12 hb12 HA2 HTW1 HR11
            go_wp2_with fail
            refine HSM.out.mono ?_
            rintro e w13 ⟨rfl, hb13⟩
            have HTW3 := Lib.hid (HTW2.out.below hb13)
            have HCA := Lib.hid (count_any HTW3.out.a.1)
            have HCB := Lib.hid (count_any HTW3.out.b.1)
            clear hb13 HSM HTW2
            go_wp2_with fail
            refine HCA.out.mono ?_
            rintro e w14 ⟨rfl, rfl⟩
            go_wp2_with fail
            refine HCB.out.mono ?_
            rintro e w14 ⟨rfl, rfl⟩
            go_wp2_with fail
            go_ret
            exact ⟨rfl, HTW3.out.bel⟩
        · have d4 : decide ((i : Int) < (M : Int)) = false := decide_eq_false (by omega)
          obtain ⟨Tb, Fa9, Fb9, hs9⟩ := HS2.out
          have HADV := Lib.hid (advance_any hs9.tw.b.1 (fun i hi => (hs9.tw.b.2 i hi).2) t ⟨by omega, by omega⟩ (by omega))
          have HS9 := Lib.hid hs9
          clear hs9 HS2
          go_wp2_with fail
          refine HADV.out.mono ?_
          rintro e w8 ⟨E8, R8, A8, c8, rfl, hER8, hle8, hRl8, hro8, hw8, hk8, hnil8⟩
          have HS8 := Lib.hid (HS9.out.adv hw8 hk8 hER8 hle8 hnbt)
          have hlen8 : G.length + E8.length ≤ 64 := by
            have h := congrArg List.length HS8.out.all
            rw [List.length_append, List.length_append] at h
            have := HT64.out
            omega
          have HRD := Lib.hid (RdT.own hro8)
          have HNL := Lib.hid hnil8
          have HBS := Lib.hid HS8.out.tw.bel.size
          have hs1 := split_one HS8.out.all HS8.out.gle hRl8
          have hs2 := split_one HER.out HEL.out HRL.out
          have HG := Lib.hid (show G ++ E8 = E from hs1.1.trans hs2.1.symm)
          have HRR := Lib.hid (show R8 = R from hs1.2.trans hs2.2.symm)
          clear hER8 hle8 hRl8 hw8 hk8 HADV HS9 hro8 hnil8 hs1 hs2
          go_wp2_with (at_builtin; refine wpList_catT rfl _ _ rfl rfl rfl HS8.out.grow HRD.out HNL.out HBS.out (by omega) ?_; intro A9 c9 w9 q1 q2 q4)
          have hq9 := HS8.out.cat q1 q2 q4
          rw [HG.out, HRR.out] at hq9
          have HGN := Lib.hid (show G.length + E8.length = n from by rw [← List.length_append, HG.out, HN.out])
          rw [HGN.out]
          have HQ9 := Lib.hid hq9
          have HAW := Lib.hid (HAL.out w9)
          clear q1 q2 q4 HS8 HRD HNL HBS hq9
          go_wp2_with fail
          refine HAW.out.mono ?_
          rintro e w10 ⟨rfl, hb10⟩
          have hRG := RdT.own HQ9.out.grow
          have hRW := RdT.own HQ9.out.wrow
          have hE64 : E.length ≤ 1000 := by have := congrArg List.length HER.out; rw [List.length_append] at this; have := HT64.out; omega
          have HA1 := Lib.hid (as_any c9 (hRG.below hb10) hE64)
          have HRW := Lib.hid (hRW.below hb10)
          have HTW := Lib.hid (HQ9.out.tw.below hb10)
          have HE64 := Lib.hid hE64
          rw [HN.out] at HA1
          clear hRG hRW hb10 hE64 HQ9 HAW
          go_wp2_with fail
          refine HA1.out.mono ?_
          rintro e w11 ⟨A11, c11, rfl, hr11, hb11⟩
          have HA2 := Lib.hid (as_any cw (HRW.out.below hb11) HE64.out)
          have HTW1 := Lib.hid (HTW.out.below hb11)
          have HR11 := Lib.hid (RdT.own (show w11.ownsRow _ _ 3 (.slice A11 E.length c11) E.length (flatT E) from HN.out.symm ▸ hr11))
          rw [HN.out] at HA2
          clear hr11 hb11 HA1 HRW HTW
          go_wp2_with fail
          refine HA2.out.mono ?_
          rintro e w12 ⟨A12, c12, rfl, hr12, hb12⟩
          have HSM := Lib.hid (same_any c11 c12 (HR11.out.below hb12) (RdT.own (show w12.ownsRow _ _ 3 (.slice A12 E.length c12) E.length (flatT E) from HN.out.symm ▸ hr12)) HE64.out HE64.out)
          rw [HN.out, decide_eq_true rfl] at HSM
          have HTW2 := Lib.hid (HTW1.out.below hb12)
          clear hr12 hb12 HA2 HTW1 HR11
          go_wp2_with fail
          refine HSM.out.mono ?_
          rintro e w13 ⟨rfl, hb13⟩
          have HTW3 := Lib.hid (HTW2.out.below hb13)
          have HCA := Lib.hid (count_any HTW3.out.a.1)
          have HCB := Lib.hid (count_any HTW3.out.b.1)
          clear hb13 HSM HTW2
          go_wp2_with fail
          refine HCA.out.mono ?_
          rintro e w14 ⟨rfl, rfl⟩
          go_wp2_with fail
          refine HCB.out.mono ?_
          rintro e w14 ⟨rfl, rfl⟩
          go_wp2_with fail
          go_ret
          exact ⟨rfl, HTW3.out.bel⟩
theorem walk (A : Option Addr) (N c : Nat) (A2 : Option Addr) (M c2 : Nat) (t : Int) (w : World) (h : Shp.Good w (.list (.obj shOp)) [.slice A N c]) (h2 : Shp.Good w (.list (.int .u32)) [.slice A2 M c2]) (_ : (Lit.int .i64 t).wf = true) :
    Calls Try.prog 6 #[.slice A N c, .slice A2 M c2, .int .i64 t] w fun e w' => e = .returned (.bool true) ∧ Below w.heap.size w w' := by
  obtain ⟨hN, Q, hQ⟩ := open_ops h
  obtain ⟨hM, U, hU⟩ := open_us h2
  exact walk0 A N c Q A2 M c2 U t w hQ hU hN hM
end WheelSteps
end Go.Proofs.Ytgbahkkccpcadaa
