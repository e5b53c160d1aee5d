/- The document's limiter: Allow. -/
import Derived.Test.YtlccgplgbokgkaaLimFind
namespace Go.Proofs.Ytlccgplgbokgkaa
namespace Lim
open Go.ChangeShapes Go.WideShapes Go.ChangeAt Go.RowKit Go.Maps
open Num Mem Words Chacha Aead Poly Adr Ops Quiet Stamp RowV

set_option maxRecDepth 100000 in
theorem r09_any (t : Int) (b : Bool) (hb : b = true ↔ okT t) (w : World) : Calls Try.prog 23 #[.int .i64 t] w fun e w' => e = .returned (.bool b) ∧ w = w' := by
  by_cases h1 : 0 ≤ t
  · have d1 : decide (0 ≤ t) = true := decide_eq_true h1
    by_cases h2 : t ≤ 1099511627776
    · have d2 : decide (t ≤ 1099511627776) = true := decide_eq_true h2
      obtain rfl : b = true := hb.2 ⟨h1, h2⟩
      clear hb
      go_enter Try.func23, Try.ntmps23
      go_wp2_with fail
      go_ret
      exact ⟨rfl, rfl⟩
    · have d2 : decide (t ≤ 1099511627776) = false := decide_eq_false h2
      obtain rfl : b = false := by
        cases b
        · rfl
        · exact absurd (hb.1 rfl).2 h2
      clear hb
      go_enter Try.func23, Try.ntmps23
      go_wp2_with fail
      go_ret
      exact ⟨rfl, rfl⟩
  · have d1 : decide (0 ≤ t) = false := decide_eq_false h1
    obtain rfl : b = false := by
      cases b
      · rfl
      · exact absurd (hb.1 rfl).1 h1
    clear hb
    go_enter Try.func23, Try.ntmps23
    go_wp2_with fail
    go_ret
    exact ⟨rfl, rfl⟩

theorem RW.keep {w w' : World} {Y B : Nat} {E : List Ent} {last : Int} (h : RW w Y B E last) (hb : Below w.heap.size w w') : RW w' Y B E last := by
  obtain ⟨A, c, h1, h2, h3⟩ := h
  exact ⟨A, c, Whole.below h1 hb h1.lt, own_keep h2 hb, h3⟩
theorem own_more' {w : World} {B B' e size n : Nat} {v : Value} {xs : List Value} (h : w.ownsRow B e size v n xs) (hB : B' ≤ B) : w.ownsRow B' e size v n xs := by
  refine ⟨h.1, ?_⟩
  rcases h.2 with h0 | ⟨c, cap, cur, hv, hb, rest⟩
  · exact Or.inl h0
  · exact Or.inr ⟨c, cap, cur, hv, Nat.le_trans hB hb, rest⟩
theorem RW.more {w : World} {Y B B' : Nat} {E : List Ent} {last : Int} (h : RW w Y B E last) (hB : B' ≤ B) (hY : Y < B') : RW w Y B' E last := by
  obtain ⟨A, c, h1, h2, h3⟩ := h
  exact ⟨A, c, h1, own_more' h2 hB, hY⟩

theorem fold_set : ∀ (Q : List Value) (zs : List Value) (k : Nat) (pre : List Value), pre.length = k → Q.length = zs.length → List.foldl (fun (cs : Array Value) (x : Value × Nat) => cs.setIfInBounds x.2 x.1) (pre ++ zs).toArray (Q.zipIdx k) = (pre ++ Q).toArray
  | [], zs, k, pre, _, h => by
    have : zs = [] := List.eq_nil_of_length_eq_zero h.symm
    rw [this]
    rfl
  | q :: Q, [], k, pre, _, h => by simp at h
  | q :: Q, z :: zs, k, pre, hp, h => by
    rw [List.zipIdx_cons, List.foldl_cons]
    dsimp only
    have e : (pre ++ z :: zs).toArray.setIfInBounds k q = ((pre ++ [q]) ++ zs).toArray := by
      rw [List.setIfInBounds_toArray]
      congr 1
      rw [List.set_append_right _ _ (by omega), hp, Nat.sub_self, List.set_cons_zero, List.append_assoc]
      rfl
    rw [e, fold_set Q zs (k + 1) (pre ++ [q]) (by rw [List.length_append, hp]; rfl) (by simpa using h), List.append_assoc]
    rfl
theorem fold_whole (Q : List Value) (zs : Array Value) (h : Q.length = zs.size) : List.foldl (fun (cs : Array Value) (x : Value × Nat) => cs.setIfInBounds x.2 x.1) zs Q.zipIdx = Q.toArray := by
  have := fold_set Q zs.toList 0 [] rfl (by simpa using h)
  simpa using this
theorem infoB : (Try.prog.info? 71).map (fun i => (i.zero, i.size, i.bytes)) = some (some (.agg (cellsE (false, nought, 0, 0)).toArray), 19, 40) := by kernel_rfl
theorem news_new (w : World) (us : List Value) (t : TypeId) : ∀ j x, us[j]? = some x → (w.alloc (.cells us.toArray t)).cell? ((⟨w.heap.size, 0, none⟩ : Addr).add j) = some x := by
  intro j x hj
  have h := (Whole.new w t us.toArray).cell j
  have e : (⟨w.heap.size, 0, none⟩ : Addr).add j = ⟨w.heap.size, j, none⟩ := by unfold Addr.add; split <;> simp_all
  rw [e, h, List.getElem?_toArray]
  exact hj
/-- append of one element of several cells to a row of one's own -/
theorem wpList_pushS {P : Program} {ops : Array Oper} {rest : List Oper} {o : Oper} {a : Act} {Q : Exit → Act → World → Prop} {w : World} {B k c : Nat} {A : Option Addr} {xs : List Value} (us : List Value) (size : Nat) (hgd : o.guard = none) (s x : Operand) (t e : TypeId) (z : Value) (by_ : Nat)
    (ht : P.underlying t = some (.slice e)) (hinfo : (P.info? e).map (fun i => (i.zero, i.size, i.bytes)) = some (some z, size, by_)) (hz : z.cells.size = size) (h0 : 0 < size)
    (ho : o.op = .call { callee := .builtin .append, args := #[s, x], argTypes := #[t, t] })
    (hs : a.eval s = .slice A k c) (hx : a.eval x = .slice (some ⟨w.heap.size, 0, none⟩) 1 1) (own : w.ownsRow B e size (.slice A k c) k xs) (hB : B ≤ w.heap.size)
    (hl : us.length = size) (h1 : ∀ u ∈ us, u.oneCell' = true) (hk : (k + 1) * by_ ≤ 140737488355328) (hk2 : k + 1 ≤ 140737488355328)
    (h : ∀ A' c' w', w'.ownsRow B e size (.slice A' (k + 1) c') (k + 1) (xs ++ us) → Below B w w' → wpList P ops Q rest (a.put o.dst (.slice A' (k + 1) c')) w') :
    wpList P ops Q (o :: rest) a (w.alloc (.cells us.toArray e)) := by
  obtain ⟨i0, hi, hz0, hz1, hz2⟩ := info_parts hinfo
  refine wpList_append_own _ hgd s x t ho B e i0 z size by_ ht hi hz0 hz1 hz2 hz h0 (.slice A k c) k xs hs (World.ownsRow.alloc own _) ⟨w.heap.size, 0, none⟩ 1 1 us hx (by rw [Nat.one_mul]; exact hl) (news_new _ _ _)
    h1 (by simp only [maxLen]; omega) hk (by simp; omega) ?_
  intro v' w' g1 g2 _
  have hbel := keeps_row (World.ownsRow.alloc own (.cells us.toArray e)) ((Below.refl B w).alloc hB _) g2 (Nat.le_trans hB (by simp))
  rcases g1.2 with ⟨_, h0⟩ | ⟨g, cap, cur, rfl, r⟩
  · omega
  · exact h _ _ w' g1 hbel

/-- the document's limiter on the way -/
structure RV (w : World) (Y N0 : Nat) (E : List Ent) (t : Int) (A : Option Addr) (n c : Nat) (V : World) : Prop where
  y : Whole V Y 31 #[.slice A n c, .int .i64 t]
  row : V.ownsRow N0 71 19 (.slice A n c) n (flat E)
  two : Two Y Y w V
theorem RV.rw {w V : World} {Y N0 : Nat} {E : List Ent} {t : Int} {A : Option Addr} {n c : Nat} (h : RV w Y N0 E t A n c V) (hn : E.length = n) (hY : Y < N0) : RW V Y N0 E t := by
  subst hn
  exact ⟨A, c, h.y, h.row, hY⟩
theorem RV.keep {w V V' : World} {Y N0 : Nat} {E : List Ent} {t : Int} {A : Option Addr} {n c : Nat} (h : RV w Y N0 E t A n c V) (hb : Below V.heap.size V V') : RV w Y N0 E t A n c V' :=
  ⟨Whole.below h.y hb h.y.lt, own_keep h.row hb, h.two.trans (two_below hb)⟩
theorem RV.set {w V : World} {Y N0 : Nat} {E : List Ent} {t : Int} {g n c : Nat} (h : RV w Y N0 E t (some ⟨g, 0, none⟩) n c V) (hY : Y < N0) (hg : N0 ≤ g) (hw : w.heap.size ≤ N0) {i j : Nat} {e e' : Ent} {u : Value} (he : E[i]? = some e) (hj : j < 19) (hs : (cellsE e).set j u = cellsE e') : RV w Y N0 (E.set i e') t (some ⟨g, 0, none⟩) n c (V.setCell ⟨g, i * 19 + j, none⟩ u) := by
  refine ⟨Whole.far h.y (by show Y ≠ g; omega) _, ?_, ?_⟩
  · have := own_put h.row (i * 19 + j) u
    rw [flat_set E i j e e' u he hj hs] at this
    exact this
  · have hb := (Below.refl w.heap.size V).setCell (p := ⟨g, i * 19 + j, none⟩) (by show w.heap.size ≤ g; omega) u
    exact ⟨hb.os.trans h.two.os, hb.tape.trans h.two.tape, hb.output.trans h.two.output, Nat.le_trans h.two.size hb.size, fun k hk h1 h2 => (hb.block k hk).trans (h.two.block k hk h1 h2)⟩
theorem RV.cell {w V : World} {Y N0 : Nat} {E : List Ent} {t : Int} {g n c : Nat} (h : RV w Y N0 E t (some ⟨g, 0, none⟩) n c V) {i j : Nat} {e : Ent} {v : Value} (he : E[i]? = some e) (hn : 0 < n) (hj : j < 19) (hv : (cellsE e)[j]? = some v) : V.cell? ⟨g, i * 19 + j, none⟩ = some v ∧ V.frozen? ⟨g, i * 19 + j, none⟩ = false := by
  obtain ⟨g', e1, _, _, hc⟩ := own_cells h.row hn
  injection e1 with e1
  injection e1 with e1
  subst e1
  exact hc _ _ (by rw [flat_get E i j e he hj]; exact hv)

theorem Below.whole' {B : Nat} {w w' : World} (h : Below B w w') {i : Nat} {t : TypeId} {cs : Array Value} (hw : Whole w i t cs) (hi : i < B) : Whole w' i t cs := (h.block i hi).trans hw
/-- what Allow answers, and leaves -/
def AskR (w : World) (Y B : Nat) (E : List Ent) (last : Int) (p : Option Lit) (t : Int) (e : Ending) (w' : World) : Prop :=
  e = .returned (.tuple #[.bool (ask (bksE Try.prog 57 E) last p t).1, .int .i64 ((ask (bksE Try.prog 57 E) last p t).2.1 : Nat)]) ∧
  (∃ E', bksE Try.prog 57 E' = (ask (bksE Try.prog 57 E) last p t).2.2.1 ∧ okE E' ∧ RW w' Y B E' (ask (bksE Try.prog 57 E) last p t).2.2.2) ∧ Two Y Y w w'

set_option maxRecDepth 100000 in
set_option maxHeartbeats 4000000 in
theorem rallow_addr (Y B : Nat) (E : List Ent) (last : Int) (hE : okE E) (hG : Good (bksE Try.prog 57 E) last) (s : Bool) (f : Nat → Nat) (hf : ∀ i, f i < 256) (t : Int) (hr : rightB s f = false) (w : World) (h : RW w Y B E last) (hB : B ≤ w.heap.size) :
    Calls Try.prog 11 #[.pointer (some ⟨Y, 0, none⟩), .agg (addrL s f).toArray, .int .i64 t] w (AskR w Y B E last (placeO Try.prog 57 s f) t) := by
  obtain ⟨zs, hz, hzs⟩ : ∃ zs : Array Value, (∀ w, (zeroValue 25).run Try.prog w = .ok (.agg zs) w) ∧ zs.size = 17 := ⟨_, zero_addr, addr_size _ _⟩
  have HZS := Lib.hid hzs
  have H := Lib.hid h
  have HBW := Lib.hid hB
  have HC := Lib.hid (rplace_any s f)
  obtain ⟨M, hM⟩ : ∃ M : Array Value, (addrL (plS s f) (plG s f)).toArray = M := ⟨_, rfl⟩
  have HMS := Lib.hid (show M.size = 17 by rw [← hM, addr_size])
  have HMO := Lib.hid (show M.all (·.oneCell') = true by rw [← hM]; exact addr_one _ _)
  have HME := Lib.hid hM
  rw [hM] at HC
  rw [hr] at HC
  rw [place_none hr]
  clear hr
  obtain ⟨A, hA⟩ : ∃ A : Array Value, (addrL s f).toArray = A := ⟨_, rfl⟩
  have HAS := Lib.hid (show A.size = 17 by rw [← hA, addr_size])
  rw [hA] at HC ⊢
  have HG := Lib.hid hG
  have HEE := Lib.hid hE
  have HF := Lib.hid hf
  clear hA hzs hM h hB hG hE hf
  go_enter Try.func11, Try.ntmps11
  go_upto_region 1 with fail
  refine cut_world (fun X => Whole X w.heap.size 25 A ∧ Below w.heap.size w X) ⟨Whole.new _ _ _, below_alloc (Below.refl _ _) _⟩ ?_
  rintro W ⟨p1, p2⟩
  have P1 := Lib.hid p1
  have P2 := Lib.hid p2
  clear p1 p2
  go_wp2_with (refine wpList_load_row rfl 25 (.tmp 4) rfl w.heap.size rfl 25 A (0, 0) _ P1.out rfl rfl (by rw [HAS.out]; kernel_rfl) ?_)
  refine (HC.out W).mono ?_
  rintro e w1 ⟨rfl, hb1⟩
  have P2' := Lib.hid (below_trans P2.out hb1)
  clear hb1 P1 P2 HC
  go_upto_region 2 with (refine wpList_store_row rfl 25 (.tmp 8) (.tmp 17) rfl w1.heap.size M rfl rfl 25 _ (Whole.new _ _ zs) (by rw [HMS.out]; kernel_rfl) (by rw [HMS.out, HZS.out]) HMO.out ?_)
  have hPw : w.heap.size ≤ w1.heap.size := P2'.out.size
  generalize hP : w1.heap.size = P at hPw
  have hb2 : Below w1.heap.size w1 ((w1.alloc (.cells zs 25)).setRow P M) := by
    rw [← hP]; exact below_setRow (below_alloc (Below.refl _ _) _) (Nat.le_refl _) _
  refine cut_world (fun X => Whole X P 25 M ∧ Below w.heap.size w X) ⟨by rw [← hP]; exact setRow_heap _ _ _ _ _ _ (Whole.new _ _ zs), below_trans P2'.out hb2⟩ ?_
  clear hb2 P2' hP w1 W
  rintro X ⟨q1, q2⟩
  have HP := Lib.hid q1
  have HX := Lib.hid q2
  clear q1 q2
  go_wp2_with fail
  go_ret2
  exact ⟨rfl, ⟨E, rfl, HEE.out, H.out.keep HX.out⟩, two_below HX.out⟩

set_option maxRecDepth 100000 in
set_option maxHeartbeats 4000000 in
theorem rallow_time (Y B : Nat) (E : List Ent) (last : Int) (hE : okE E) (hG : Good (bksE Try.prog 57 E) last) (s : Bool) (f : Nat → Nat) (hf : ∀ i, f i < 256) (t : Int) (hr : rightB s f = true) (ht : ¬ okT t ∨ t < last) (w : World) (h : RW w Y B E last) (hB : B ≤ w.heap.size) :
    Calls Try.prog 11 #[.pointer (some ⟨Y, 0, none⟩), .agg (addrL s f).toArray, .int .i64 t] w (AskR w Y B E last (placeO Try.prog 57 s f) t) := by
  obtain ⟨zs, hz, hzs⟩ : ∃ zs : Array Value, (∀ w, (zeroValue 25).run Try.prog w = .ok (.agg zs) w) ∧ zs.size = 17 := ⟨_, zero_addr, addr_size _ _⟩
  have HZS := Lib.hid hzs
  have H := Lib.hid h
  have HBW := Lib.hid hB
  have HC := Lib.hid (rplace_any s f)
  obtain ⟨M, hM⟩ : ∃ M : Array Value, (addrL (plS s f) (plG s f)).toArray = M := ⟨_, rfl⟩
  have HMS := Lib.hid (show M.size = 17 by rw [← hM, addr_size])
  have HMO := Lib.hid (show M.all (·.oneCell') = true by rw [← hM]; exact addr_one _ _)
  have HME := Lib.hid hM
  rw [hM] at HC
  rw [hr] at HC
  have hpl := place_pl hf hr
  rw [hpl]
  clear hr hpl
  have hA1 : ask (bksE Try.prog 57 E) last (some (klit Try.prog 57 s (plF s f) (bitsOf s))) t = (false, 1, bksE Try.prog 57 E, last) := by unfold ask; dsimp only; rw [if_pos ht]
  have HAK := Lib.hid hA1
  have HTL := Lib.hid ht
  clear hA1
  obtain ⟨A, hA⟩ : ∃ A : Array Value, (addrL s f).toArray = A := ⟨_, rfl⟩
  have HAS := Lib.hid (show A.size = 17 by rw [← hA, addr_size])
  rw [hA] at HC ⊢
  have HG := Lib.hid hG
  have HEE := Lib.hid hE
  have HF := Lib.hid hf
  clear hA hzs hM h hB hG hE hf
  go_enter Try.func11, Try.ntmps11
  go_upto_region 1 with fail
  refine cut_world (fun X => Whole X w.heap.size 25 A ∧ Below w.heap.size w X) ⟨Whole.new _ _ _, below_alloc (Below.refl _ _) _⟩ ?_
  rintro W ⟨p1, p2⟩
  have P1 := Lib.hid p1
  have P2 := Lib.hid p2
  clear p1 p2
  go_wp2_with (refine wpList_load_row rfl 25 (.tmp 4) rfl w.heap.size rfl 25 A (0, 0) _ P1.out rfl rfl (by rw [HAS.out]; kernel_rfl) ?_)
  refine (HC.out W).mono ?_
  rintro e w1 ⟨rfl, hb1⟩
  have P2' := Lib.hid (below_trans P2.out hb1)
  clear hb1 P1 P2 HC
  go_upto_region 2 with (refine wpList_store_row rfl 25 (.tmp 8) (.tmp 17) rfl w1.heap.size M rfl rfl 25 _ (Whole.new _ _ zs) (by rw [HMS.out]; kernel_rfl) (by rw [HMS.out, HZS.out]) HMO.out ?_)
  have hPw : w.heap.size ≤ w1.heap.size := P2'.out.size
  generalize hP : w1.heap.size = P at hPw
  have hb2 : Below w1.heap.size w1 ((w1.alloc (.cells zs 25)).setRow P M) := by
    rw [← hP]; exact below_setRow (below_alloc (Below.refl _ _) _) (Nat.le_refl _) _
  refine cut_world (fun X => Whole X P 25 M ∧ Below w.heap.size w X) ⟨by rw [← hP]; exact setRow_heap _ _ _ _ _ _ (Whole.new _ _ zs), below_trans P2'.out hb2⟩ ?_
  clear hb2 P2' hP w1 W
  rintro X ⟨q1, q2⟩
  have HP := Lib.hid q1
  have HX := Lib.hid q2
  clear q1 q2
  obtain ⟨A2, c2, hY, hrow, hYB⟩ := (H.out.keep HX.out)
  have c1 : X.cell? ⟨Y, 1, none⟩ = some (.int .i64 last) := hY.cell 1
  clear hY hrow hYB
  by_cases hok : okT t
  · have hl : t < last := by
      rcases HTL.out with h | h
      · exact absurd hok h
      · exact h
    have hl2 : decide (t < last) = true := decide_eq_true hl
    go_wp2_with fail
    refine (r09_any t true ⟨fun _ => hok, fun _ => rfl⟩ X).mono ?_
    rintro e w1 ⟨rfl, rfl⟩
    go_wp2_with fail
    go_ret2
    unfold AskR
    rw [HAK.out]
    exact ⟨rfl, ⟨E, rfl, HEE.out, H.out.keep HX.out⟩, two_below HX.out⟩
  · go_wp2_with fail
    refine (r09_any t false ⟨fun e => (by cases e), fun k => absurd k hok⟩ X).mono ?_
    rintro e w1 ⟨rfl, rfl⟩
    go_wp2_with fail
    go_ret2
    unfold AskR
    rw [HAK.out]
    exact ⟨rfl, ⟨E, rfl, HEE.out, H.out.keep HX.out⟩, two_below HX.out⟩

theorem Two.over2 {g b N : Nat} {x y z : World} (h : Two g b x y) (k : Below N y z) (hN : x.heap.size ≤ N) : Two g b x z :=
  ⟨k.os.trans h.os, k.tape.trans h.tape, k.output.trans h.output, Nat.le_trans h.size k.size, fun i hi h1 h2 => (k.block i (by omega)).trans (h.block i hi h1 h2)⟩
/-- append of one element of several cells, at the operation -/
theorem wp_pushS {P : Program} {o : Oper} {a : Act} {K : Act → World → Prop} {Q : Exit → Act → World → Prop} {w : World} {B k c : Nat} {A : Option Addr} {xs : List Value} (us : List Value) (size : Nat) (s x : Operand) (t e : TypeId) (z : Value) (by_ : Nat)
    (ht : P.underlying t = some (.slice e)) (hinfo : (P.info? e).map (fun i => (i.zero, i.size, i.bytes)) = some (some z, size, by_)) (hz : z.cells.size = size) (h0 : 0 < size)
    (ho : o.op = .call { callee := .builtin .append, args := #[s, x], argTypes := #[t, t] })
    (hs : a.eval s = .slice A k c) (hx : a.eval x = .slice (some ⟨w.heap.size, 0, none⟩) 1 1) (own : w.ownsRow B e size (.slice A k c) k xs) (hB : B ≤ w.heap.size)
    (hl : us.length = size) (h1 : ∀ u ∈ us, u.oneCell' = true) (hk : (k + 1) * by_ ≤ 140737488355328) (hk2 : k + 1 ≤ 140737488355328)
    (h : ∀ A' c' w', w'.ownsRow B e size (.slice A' (k + 1) c') (k + 1) (xs ++ us) → Below B w w' → K (a.put o.dst (.slice A' (k + 1) c')) w') :
    Oper.wp P o a (w.alloc (.cells us.toArray e)) K Q := by
  obtain ⟨i0, hi, hz0, hz1, hz2⟩ := info_parts hinfo
  refine wp_append_own _ s x t ho B e i0 z size by_ ht hi hz0 hz1 hz2 hz h0 (.slice A k c) k xs hs (World.ownsRow.alloc own _) ⟨w.heap.size, 0, none⟩ 1 1 us hx (by rw [Nat.one_mul]; exact hl) (news_new _ _ _)
    h1 (by simp only [maxLen]; omega) hk (by simp; omega) ?_
  intro v' w' g1 g2 _
  have hbel := keeps_row (World.ownsRow.alloc own (.cells us.toArray e)) ((Below.refl B w).alloc hB _) g2 (Nat.le_trans hB (by simp))
  rcases g1.2 with ⟨_, h0⟩ | ⟨g, cap, cur, rfl, r⟩
  · omega
  · exact h _ _ w' g1 hbel
theorem run_built3 {P : Program} {o : Oper} {a : Act} {w : World} (t : TypeId) (k1 k2 k3 : Nat) (x1 x2 x3 : Operand) (ho : o.op = .build t #[(k1, x1), (k2, x2), (k3, x3)]) (v1 v2 v3 : Value) (h1 : a.eval x1 = v1) (h2 : a.eval x2 = v2) (h3 : a.eval x3 = v3)
    (vs : Array Value) (hb : P.built t [(k1, v1), (k2, v2), (k3, v3)] = some vs) : (execOp a.eval o).run P w = .ok (.value (.agg vs)) w := by
  have e : P.built t ((#[(k1, x1), (k2, x2), (k3, x3)] : Array (Nat × Operand)).map fun (i, x) => (i, a.eval x)).toList = some vs := by simpa [h1, h2, h3] using hb
  unfold execOp
  simp only [ho, Sem.run_bind, run_build w t _ vs e, Result.andThen_ok, Sem.run_pure]
theorem bucket_built (s : Bool) (f : Nat → Nat) (x y : Int) : Try.prog.built 71 [(0, .agg (addrL s f).toArray), (1, .int .i64 x), (2, .int .i64 y)] = some (cellsE (s, f, x, y)).toArray := by kernel_rfl
/-- what region 19 reads -/
structure S19 (Y P : Nat) (M : Array Value) (A : Option Addr) (n c : Nat) (X : World) : Prop where
  y : X.cell? ⟨Y, 0, none⟩ = some (.slice A n c)
  p : Whole X P 25 M
theorem S19.below {Y P N : Nat} {M : Array Value} {A : Option Addr} {n c : Nat} {X X' : World} (h : S19 Y P M A n c X) (hb : Below N X X') (hY : Y < N) (hP : P < N) : S19 Y P M A n c X' :=
  ⟨(hb.cell (p := ⟨Y, 0, none⟩) hY).trans h.y, (hb.block P hP).trans h.p⟩

set_option maxRecDepth 100000 in
set_option maxHeartbeats 4000000 in
theorem rallow_ok (Y B : Nat) (E : List Ent) (last : Int) (hE : okE E) (hG : Good (bksE Try.prog 57 E) last) (s : Bool) (f : Nat → Nat) (hf : ∀ i, f i < 256) (t : Int) (hr : rightB s f = true) (ht : okT t) (hl : last ≤ t) (w : World) (h : RW w Y B E last) (hB : B ≤ w.heap.size) :
    Calls Try.prog 11 #[.pointer (some ⟨Y, 0, none⟩), .agg (addrL s f).toArray, .int .i64 t] w (AskR w Y B E last (placeO Try.prog 57 s f) t) := by
  obtain ⟨zs, hz, hzs⟩ : ∃ zs : Array Value, (∀ w, (zeroValue 25).run Try.prog w = .ok (.agg zs) w) ∧ zs.size = 17 := ⟨_, zero_addr, addr_size _ _⟩
  have HZS := Lib.hid hzs
  have H := Lib.hid h
  have HBW := Lib.hid hB
  have HC := Lib.hid (rplace_any s f)
  obtain ⟨M, hM⟩ : ∃ M : Array Value, (addrL (plS s f) (plG s f)).toArray = M := ⟨_, rfl⟩
  have HMS := Lib.hid (show M.size = 17 by rw [← hM, addr_size])
  have HMO := Lib.hid (show M.all (·.oneCell') = true by rw [← hM]; exact addr_one _ _)
  have HME := Lib.hid hM
  rw [hM] at HC
  rw [hr] at HC
  have hpl := place_pl hf hr
  rw [hpl]
  have HT := Lib.hid ht
  have HRR := Lib.hid hr
  clear hr hpl
  obtain ⟨A, hA⟩ : ∃ A : Array Value, (addrL s f).toArray = A := ⟨_, rfl⟩
  have HAS := Lib.hid (show A.size = 17 by rw [← hA, addr_size])
  rw [hA] at HC ⊢
  have HG := Lib.hid hG
  have HEE := Lib.hid hE
  have HF := Lib.hid hf
  clear hA hzs hM h hB hG hE hf
  go_enter Try.func11, Try.ntmps11
  go_upto_region 1 with fail
  refine cut_world (fun X => Whole X w.heap.size 25 A ∧ Below w.heap.size w X) ⟨Whole.new _ _ _, below_alloc (Below.refl _ _) _⟩ ?_
  rintro W ⟨p1, p2⟩
  have P1 := Lib.hid p1
  have P2 := Lib.hid p2
  clear p1 p2
  go_wp2_with (refine wpList_load_row rfl 25 (.tmp 4) rfl w.heap.size rfl 25 A (0, 0) _ P1.out rfl rfl (by rw [HAS.out]; kernel_rfl) ?_)
  refine (HC.out W).mono ?_
  rintro e w1 ⟨rfl, hb1⟩
  have P2' := Lib.hid (below_trans P2.out hb1)
  clear hb1 P1 P2 HC
  go_upto_region 2 with (refine wpList_store_row rfl 25 (.tmp 8) (.tmp 17) rfl w1.heap.size M rfl rfl 25 _ (Whole.new _ _ zs) (by rw [HMS.out]; kernel_rfl) (by rw [HMS.out, HZS.out]) HMO.out ?_)
  have hPw : w.heap.size ≤ w1.heap.size := P2'.out.size
  generalize hP : w1.heap.size = P at hPw
  have hb2 : Below w1.heap.size w1 ((w1.alloc (.cells zs 25)).setRow P M) := by
    rw [← hP]; exact below_setRow (below_alloc (Below.refl _ _) _) (Nat.le_refl _) _
  refine cut_world (fun X => Whole X P 25 M ∧ Below w.heap.size w X) ⟨by rw [← hP]; exact setRow_heap _ _ _ _ _ _ (Whole.new _ _ zs), below_trans P2'.out hb2⟩ ?_
  clear hb2 P2' hP w1 W
  rintro X ⟨q1, q2⟩
  have HP := Lib.hid q1
  have HX := Lib.hid q2
  clear q1 q2
  obtain ⟨A2, c2, hY, hrow, hYB⟩ := (H.out.keep HX.out)
  have hYw : Y < w.heap.size := Nat.lt_of_lt_of_le hYB HBW.out
  have c1 : X.cell? ⟨Y, 1, none⟩ = some (.int .i64 last) := hY.cell 1
  have f1 : X.frozen? ⟨Y, 1, none⟩ = false := hY.free 1
  obtain ⟨n, hn⟩ : ∃ n, E.length = n := ⟨_, rfl⟩
  have hn32 : n ≤ 32 := by have := HG.out.room; rw [← hn]; simpa [bksE] using this
  rw [hn] at hY hrow
  have HN := Lib.hid hn
  have HY := Lib.hid hY
  have HROW := Lib.hid hrow
  clear hY hrow hn
  have hl2 : decide (t < last) = false := decide_eq_false (by omega)
  have hl3 : ¬ t < last := by omega
  go_wp2_with fail
  refine (r09_any t true ⟨fun _ => HT.out, fun _ => rfl⟩ X).mono ?_
  rintro e w1 ⟨rfl, rfl⟩
  go_upto_region 7 with fail
  obtain ⟨W6, hW6⟩ : ∃ W6, X.setCell ⟨Y, 1, none⟩ (.int .i64 t) = W6 := ⟨_, rfl⟩
  have HY6 := Lib.hid (show Whole W6 Y 31 #[.slice A2 n c2, .int .i64 t] from by rw [← hW6]; exact HY.out.put 1 (.int .i64 t))
  have HR6 := Lib.hid (show W6.ownsRow B 71 19 (.slice A2 n c2) n (flat E) from by rw [← hW6]; exact own_set' HROW.out (by show Y < B; exact hYB) _)
  have HP6 := Lib.hid (show Whole W6 P 25 M from by rw [← hW6]; exact Whole.far HP.out (by show P ≠ Y; omega) _)
  have HT6 := Lib.hid (show Two Y Y w W6 from by rw [← hW6]; exact (two_below HX.out).trans (two_set X 1 _))
  rw [hW6]
  clear hW6 HY HROW HP HX c1 f1 hl2 hl3 H
  have hwW6 := HT6.out.size
  go_wp2_with fail
  generalize hN0 : W6.heap.size = N0
  have hYN : Y < N0 := by rw [← hN0]; exact HY6.out.lt
  have hPN : P < N0 := by rw [← hN0]; exact HP6.out.lt
  have hBN : B ≤ N0 := by have := HT6.out.size; have := HBW.out; omega
  have HN0 := Lib.hid hN0
  have HT6w := Lib.hid (show w.heap.size ≤ N0 by rw [← hN0]; exact hwW6)
  clear hN0 hwW6
  obtain ⟨F, hF⟩ : ∃ F : Nat → List Ent, F = fun k => (E.take k).filter fun e => decide (t - e.2.2.2 < 1000) := ⟨_, rfl⟩
  have HFk := Lib.hid (show ∀ k d, E[k]? = some d → F (k + 1) = F k ++ (if t - d.2.2.2 < 1000 then [d] else []) from fun k d hd => by
    rw [hF]
    dsimp only
    rw [List.take_add_one, hd]
    simp only [Option.toList_some, List.filter_append]
    by_cases c : t - d.2.2.2 < 1000
    · rw [if_pos c, List.filter_cons_of_pos (by simpa using c)]; rfl
    · rw [if_neg c, List.filter_cons_of_neg (by simpa using c)]; rfl)
  have HF0 := Lib.hid (show F 0 = [] by rw [hF]; rfl)
  have HFn := Lib.hid (show F n = E.filter fun e => decide (t - e.2.2.2 < 1000) by rw [hF]; dsimp only; rw [List.take_of_length_le (by rw [HN.out]; exact Nat.le_refl _)])
  have HFl := Lib.hid (show ∀ k, (F k).length ≤ k by intro k; rw [hF]; exact Nat.le_trans (List.length_filter_le _ _) (List.length_take_le _ _))
  clear hF
  go_loopw [10, 11] (fun o i V => ∃ (k : Nat) (A3 : Option Addr) (c3 : Nat), k ≤ n ∧ i = .int .i64 k ∧ o = .slice A3 (F k).length c3 ∧ V.ownsRow N0 71 19 (.slice A3 (F k).length c3) (F k).length (flat (F k)) ∧ Below N0 W6 V) (fun _ i _ => n - (intOf i).toNat)
  case atStart => exact ⟨0, none, 0, Nat.zero_le _, rfl, by rw [HF0.out]; rfl, by rw [HF0.out]; exact World.ownsRow_nil _ _ _ _, by rw [← HN0.out]; exact Below.refl _ _⟩
  case round =>
    obtain ⟨k, A3, c3, hk, rfl, rfl, hown, hbel⟩ := hrel
    have HOW := Lib.hid hown
    have HBE := Lib.hid hbel
    clear hown hbel
    have hYV := Below.whole' HBE.out HY6.out hYN
    have cY : wr.cell? ⟨Y, 0, none⟩ = some (.slice A2 n c2) := hYV.cell 0
    by_cases hlt : k < n
    · obtain ⟨g, rfl, hg, hgl, hcells⟩ := own_cells HR6.out (by omega)
      obtain ⟨d, hd⟩ : ∃ d, E[k]? = some d := ⟨_, List.getElem?_eq_getElem (by rw [HN.out]; exact hlt)⟩
      have hk2 : IntKind.i64.wrap ((k : Int) + 1) = (k : Int) + 1 := by rw [IntKind.wrap_i64]; omega
      have hdok := HG.out.ok (toBk Try.prog 57 d) (List.mem_map.2 ⟨d, List.mem_of_getElem? hd, rfl⟩)
      have hcell : ∀ i v, (cellsE d)[i]? = some v → wr.cell? ⟨g, k * 19 + i, none⟩ = some v := fun i v hv => by
        have hi : i < 19 := by have := (List.getElem?_eq_some_iff.1 hv).1; rwa [cellsE_length] at this
        exact (HBE.out.cell (p := ⟨g, k * 19 + i, none⟩) (by rw [← HN0.out]; exact hgl)).trans (hcells _ _ (by rw [flat_get E k i d hd hi]; exact hv)).1
      have cAt : wr.cell? ⟨g, k * 19 + 18, none⟩ = some (.int .i64 d.2.2.2) := hcell 18 _ (cellsE_at d)
      have HRG := Lib.hid (show wr.rangeAt g (k * 19) (cellsE d) from fun j v hj => hcell j v hj)
      have hdo : okT d.2.2.2 ∧ d.2.2.2 ≤ last := hdok.2.2
      have HFK := Lib.hid (HFk.out k d hd)
      have HDL := Lib.hid (cellsE_length d)
      have HDO := Lib.hid (cellsE_each d)
      obtain ⟨y, hy⟩ : ∃ y, d.2.2.2 = y := ⟨_, rfl⟩
      rw [hy] at cAt hdo HFK
      obtain ⟨Q, hQ⟩ : ∃ Q, cellsE d = Q := ⟨_, rfl⟩
      rw [hQ] at HRG HDL HDO
      have HQE := Lib.hid hQ
      have hok1 := HT.out
      have hw1 : IntKind.i64.wrap (t - y) = t - y := by unfold okT at hdo hok1; rw [IntKind.wrap_i64]; omega
      have hfl := HFl.out k
      clear hcell hcells hd hdok hy hQ hok1 hdo
      obtain ⟨m, hm⟩ : ∃ m, (F k).length = m := ⟨_, rfl⟩
      rw [hm] at HOW hfl ⊢
      have HMM := Lib.hid hm
      clear hm
      by_cases c : t - y < 1000
      · rw [if_pos c] at HFK
        have hd1 : decide (t - y < 1000) = true := decide_eq_true c
        go_upto_region 12 with fail
        have hql := HDL.out
        go_wp2_with (first | (at_builtin; rw [fold_whole Q _ (by rw [HDL.out]; rfl)]; refine wpList_pushS Q 19 rfl _ _ 29 71 (.agg (cellsE (false, nought, 0, 0)).toArray) 40 Try.underlying29 infoB rfl (by omega) rfl rfl rfl HOW.out (by have := HN0.out; have := HBE.out.size; omega) HDL.out HDO.out (by omega) (by omega) ?_; intro A4 c4 w4 hown4 hb4; have HO4 := Lib.hid hown4; have HB4 := Lib.hid (HBE.out.trans hb4); clear hown4 hb4) | (refine wpList_load_mid rfl 71 (.tmp 62) rfl g (k * 19) rfl Q _ HRG.out rfl rfl (by rw [HDL.out]; kernel_rfl) ?_))
        go_wp2_with fail
        go_round
        case rel =>
          have hlen : (F (k + 1)).length = m + 1 := by rw [HFK.out, List.length_append, HMM.out]; rfl
          refine ⟨k + 1, A4, c4, by omega, by go_num, by rw [hlen], ?_, HB4.out⟩
          rw [hlen, HFK.out, flat_snoc, HQE.out]
          exact HO4.out
        case measure => simp [intOf]; omega
      · rw [if_neg c, List.append_nil] at HFK
        have hd1 : decide (t - y < 1000) = false := decide_eq_false c
        go_wp2_with fail
        go_round
        case rel => exact ⟨k + 1, A3, c3, by omega, by go_num, by rw [HFK.out, HMM.out], by rw [HFK.out, HMM.out]; exact HOW.out, HBE.out⟩
        case measure => simp [intOf]; omega
    · obtain rfl : k = n := by omega
      have f0 : wr.frozen? ⟨Y, 0, none⟩ = false := Whole.free hYV 0
      have HE1 := Lib.hid (show okE (F k) from by rw [HFn.out]; exact fun e he => HEE.out e (List.mem_filter.1 he).1)
      have hl1 := HFl.out k
      have HLB := Lib.hid (show bksE Try.prog 57 (F k) = left1000 t (bksE Try.prog 57 E) from by rw [left_bks, HFn.out])
      obtain ⟨E1, hE1⟩ : ∃ E1, F k = E1 := ⟨_, rfl⟩
      rw [hE1] at HOW HE1 hl1 HLB ⊢
      obtain ⟨n1, hn1⟩ : ∃ n1, E1.length = n1 := ⟨_, rfl⟩
      rw [hn1] at HOW hl1 ⊢
      have HN1 := Lib.hid hn1
      clear hE1 hn1 hlt HFk HF0 HFn HFl HR6 HN
      go_upto_region 14 with fail
      obtain ⟨V, hV⟩ : ∃ V, wr.setCell ⟨Y, 0, none⟩ (.slice A3 n1 c3) = V := ⟨_, rfl⟩
      have HV := Lib.hid (show RV w Y N0 E1 t A3 n1 c3 V ∧ Whole V P 25 M from by
        rw [← hV]
        refine ⟨⟨Whole.put hYV 0 (.slice A3 n1 c3), own_set' HOW.out (by show Y < N0; exact hYN) _, (HT6.out.trans (two_below (by rw [HN0.out]; exact HBE.out))).trans (two_set wr 0 _)⟩, ?_⟩
        exact Whole.far (Below.whole' HBE.out HP6.out hPN) (by show P ≠ Y; omega) _)
      have HVs := Lib.hid (show N0 ≤ V.heap.size by have h1 := HBE.out.size; have h2 := HN0.out; have h3 := (two_set (g := Y) (b := Y) wr 0 (.slice A3 n1 c3)).size; rw [hV] at h3; omega)
      rw [hV]
      clear hV HOW HBE HY6 HP6 HT6 hYV cY f0
      have HFD := Lib.hid (rfind_any Y N0 E1 t HE1.out (by rw [HN1.out]; omega) s (plF s f) (plF_lt HF.out s) V (HV.out.1.rw HN1.out hYN))
      have hMe : M = (addrL s (plF s f)).toArray := by rw [← HME.out]; unfold plS plG; rw [HRR.out, if_pos rfl, if_pos rfl]
      rw [← hMe] at HFD
      have HMM := Lib.hid hMe
      clear hMe
      go_wp2_with (refine wpList_load_row rfl 25 (.tmp 8) rfl P rfl 25 M (0, 0) _ HV.out.2 rfl rfl (by rw [HMS.out]; kernel_rfl) ?_)
      refine HFD.out.mono ?_
      rintro e V1 ⟨r, rfl, hbV, hfr⟩
      have HFR := Lib.hid hfr
      have HV1 := Lib.hid (HV.out.1.keep hbV)
      have HP1 := Lib.hid (Whole.below HV.out.2 hbV HV.out.2.lt)
      have HNV := Lib.hid (show N0 ≤ V1.heap.size from Nat.le_trans HVs.out hbV.size)
      clear hbV hfr HV HFD
      rcases HFR.out with ⟨hr1, hno⟩ | ⟨i, d, hri, hd, hsame, hfirst⟩
      · subst hr1
        by_cases hfull : 32 ≤ n1
        · have hA1 : ask (bksE Try.prog 57 E) last (some (klit Try.prog 57 s (plF s f) (bitsOf s))) t = (false, 5, bksE Try.prog 57 E1, t) := by
            unfold ask
            dsimp only
            rw [if_neg (by rintro (k | k); exact k ht; omega), ← HLB.out, lk_not (plF_lt HF.out s) HE1.out hno]
            dsimp only
            rw [if_pos (by rw [bksE, List.length_map, HN1.out]; exact hfull)]
          have HAK := Lib.hid hA1
          have hfi : (32 : Int) ≤ (n1 : Int) := by omega
          have cY := HV1.out.y.cell 0
          clear hA1
          go_wp2_with fail
          go_ret2
          unfold AskR
          rw [HAK.out]
          exact ⟨rfl, ⟨E1, rfl, HE1.out, RW.more (HV1.out.rw HN1.out hYN) hBN hYB⟩, HV1.out.two⟩
        · have hfi : ¬ (32 : Int) ≤ (n1 : Int) := by omega
          have cY := HV1.out.y.cell 0
          have HBB := Lib.hid (bucket_built s (plF s f) 250 t)
          rw [← HMM.out] at HBB
          have HQL := Lib.hid (cellsE_length (s, plF s f, 250, t))
          have HQO := Lib.hid (cellsE_each (s, plF s f, 250, t))
          obtain ⟨Q, hQ⟩ : ∃ Q, cellsE (s, plF s f, 250, t) = Q := ⟨_, rfl⟩
          rw [hQ] at HBB HQL HQO
          have HQE := Lib.hid hQ
          have hwN : w.heap.size ≤ N0 := by have := HT6w.out; omega
          have hNV : N0 ≤ V1.heap.size := HNV.out
          clear hQ
          go_upto_region 19 with fail
          clear cY
          refine region_drew (fun X => Whole X P 25 M) (by kernel_rfl) HP1.out (fun hS => ?_)
          refine take 0 _ rfl (by kernel_rfl) (by kernel_rfl) (by kernel_rfl) (fun _ _ _ h => h) (by rfl) hS (by intro w _; go_simp; try with_reducible rfl) ?_
          try simp only [Act.put, List.setIfInBounds_toArray, List.set_cons_zero, List.set_cons_succ]
          refine take 1 _ rfl (by kernel_rfl) (by kernel_rfl) (by kernel_rfl) (fun _ _ _ h => h) (by rfl) hS (by intro w _; go_simp; try with_reducible rfl) ?_
          try simp only [Act.put, List.setIfInBounds_toArray, List.set_cons_zero, List.set_cons_succ]
          refine take 2 _ rfl (by kernel_rfl) (by kernel_rfl) (by kernel_rfl) (fun _ _ _ h => h) (by rfl) hS (by intro w _; go_simp; try with_reducible rfl) ?_
          try simp only [Act.put, List.setIfInBounds_toArray, List.set_cons_zero, List.set_cons_succ]
          refine take 3 _ rfl (by kernel_rfl) (by kernel_rfl) (by kernel_rfl) (fun _ _ _ h => h) (by rfl) hS (by intro w _; go_simp; try with_reducible rfl) ?_
          try simp only [Act.put, List.setIfInBounds_toArray, List.set_cons_zero, List.set_cons_succ]
          refine take 6 _ rfl (by kernel_rfl) (by kernel_rfl) (by kernel_rfl) (fun _ _ _ h => h) (by rfl) hS (by intro w _; go_simp; try with_reducible rfl) ?_
          try simp only [Act.put, List.setIfInBounds_toArray, List.set_cons_zero, List.set_cons_succ]
          refine take 5 _ rfl (by kernel_rfl) (by kernel_rfl) (by kernel_rfl) (fun _ _ _ h => h) (by rfl) hS (fun w hw => run_load_op 25 (.tmp 8) rfl P rfl hw rfl rfl (by rw [HMS.out]; kernel_rfl)) ?_
          try simp only [Act.put, List.setIfInBounds_toArray, List.set_cons_zero, List.set_cons_succ]
          refine take 7 (.agg Q.toArray) rfl (by kernel_rfl) (by kernel_rfl) (by kernel_rfl) (fun _ _ _ h => h) (by rfl) hS (fun w hw => run_built3 71 0 1 2 (.tmp 91) (.const (.int .i64 250)) (.tmp 92) rfl (.agg M) (.int .i64 250) (.int .i64 t) rfl rfl rfl Q.toArray HBB.out) ?_
          try simp only [Act.put, List.setIfInBounds_toArray, List.set_cons_zero, List.set_cons_succ]
          refine ready_two 4 8 rfl rfl (by kernel_rfl) (by rfl) (by rfl) ?_ ?_
          · intro K hK
            have c4' : V1.drew.cell? ⟨Y, 0, none⟩ = some (.slice A3 n1 c3) := HV1.out.y.cell 0
            go_simp
            clear c4'
            refine hK.out _ _ hS ?_
            clear hK K
            try simp only [Act.put, List.setIfInBounds_toArray, List.set_cons_zero, List.set_cons_succ]
            refine alone 8 rfl (by kernel_rfl) (by rfl) ?_
            intro K hK
            have hql := HQL.out
            go_simp
            rw [fold_whole Q _ (by rw [HQL.out]; rfl)]
            have hS1 := Whole.alloc hS (.cells Q.toArray 71)
            refine hK.out _ _ hS1 ?_
            clear hK K
            try simp only [Act.put, List.setIfInBounds_toArray, List.set_cons_zero, List.set_cons_succ]
            refine alone 9 rfl (by kernel_rfl) (by rfl) ?_
            intro K hK
            refine wp_pushS Q 19 _ _ 29 71 (.agg (cellsE (false, nought, 0, 0)).toArray) 40 Try.underlying29 infoB rfl (by omega) rfl rfl rfl (show V1.drew.ownsRow N0 71 19 (.slice A3 n1 c3) n1 (flat E1) from HV1.out.row) hNV HQL.out HQO.out (by omega) (by omega) ?_
            intro A4 c4 V2 hown4 hb4
            have hb5 : Below N0 V1 V2 := ⟨hb4.os, hb4.tape, hb4.output, hb4.size, hb4.block⟩
            have hS2 := Below.whole' hb5 HP1.out hPN
            refine hK.out _ _ hS2 ?_
            clear hK K hS hS1
            try simp only [Act.put, List.setIfInBounds_toArray, List.set_cons_zero, List.set_cons_succ]
            have hYV2 := Below.whole' hb5 HV1.out.y hYN
            have f0 : V2.frozen? ⟨Y, 0, none⟩ = false := Whole.free hYV2 0
            have y0 : V2.cell? ⟨Y, 0, none⟩ = some (.slice A3 n1 c3) := Whole.cell hYV2 0
            refine alone_run 10 _ rfl (by kernel_rfl) (by rfl) hS2 (by go_simp; try with_reducible rfl) ?_
            try simp only [Act.put, List.setIfInBounds_toArray, List.set_cons_zero, List.set_cons_succ]
            refine alone_run 11 _ rfl (by kernel_rfl) (by rfl) hS2 (by go_simp; try with_reducible rfl) ?_
            try simp only [Act.put, List.setIfInBounds_toArray, List.set_cons_zero, List.set_cons_succ]
            refine alone 12 rfl (by kernel_rfl) (by rfl) ?_
            intro K hK
            go_simp
            refine hK.out _ _ (Whole.far hS2 (by show P ≠ Y; omega) _) ?_
            clear hK K
            try simp only [Act.put, List.setIfInBounds_toArray, List.set_cons_zero, List.set_cons_succ]
            refine region_end (by kernel_rfl) ?_
            refine cut_post (F := Exit.then _ _) (fun V3 => RV w Y N0 (E1 ++ [(s, plF s f, 250, t)]) t A4 (n1 + 1) c4 V3) ⟨Whole.put hYV2 0 (.slice A4 (n1 + 1) c4), by rw [flat_snoc, HQE.out]; exact own_set' hown4 (by show Y < N0; exact hYN) _, (HV1.out.two.over2 hb5 hwN).trans (two_set V2 0 _)⟩ ?_
            clear hS2 HV1 HP1 hYV2 f0 y0 hown4 hb4 hb5
            intro V1 hV1
            have HV1 := Lib.hid hV1
            clear hV1
            obtain ⟨d, hde⟩ : ∃ d : Ent, d = (s, plF s f, 250, t) := ⟨_, rfl⟩
            obtain ⟨E2, hE2⟩ : ∃ E2, E1 ++ [(s, plF s f, (250 : Int), t)] = E2 := ⟨_, rfl⟩
            obtain ⟨n2, hn2⟩ : ∃ n2, n1 + 1 = n2 := ⟨_, rfl⟩
            have HN2 := Lib.hid (show E2.length = n2 from by rw [← hE2, List.length_append, HN1.out, ← hn2]; rfl)
            have HE2 := Lib.hid (show okE E2 from by
              rw [← hE2]
              intro e he
              rcases List.mem_append.1 he with he | he
              · exact HE1.out e he
              · rw [List.mem_singleton.1 he]; exact plF_lt HF.out s)
            have HDB := Lib.hid (show 0 ≤ d.2.2.1 ∧ d.2.2.1 ≤ 250 ∧ okT d.2.2.2 from by rw [hde]; exact ⟨by show (0 : Int) ≤ 250; omega, by show (250 : Int) ≤ 250; omega, HT.out⟩)
            have HC50 := Lib.hid (show ∀ nn, lev (d.2.2.1, d.2.2.2) t = nn → ¬ nn < 50 from fun nn hnn => by rw [← hnn, hde]; unfold lev; dsimp only; omega)
            have HAK := Lib.hid (show ∀ nn, lev (d.2.2.1, d.2.2.2) t = nn → ask (bksE Try.prog 57 E) last (some (klit Try.prog 57 s (plF s f) (bitsOf s))) t = (true, 0, bksE Try.prog 57 (E2.set n1 (d.1, d.2.1, nn - 50, t)), t) from by
              intro nn hnn
              have h250 : nn = 250 := by rw [← hnn, hde]; unfold lev; dsimp only; omega
              unfold ask
              dsimp only
              rw [if_neg (by rintro (k | k); exact k ht; omega), ← HLB.out, lk_not (plF_lt HF.out s) HE1.out hno]
              dsimp only
              rw [if_neg (by rw [bksE, List.length_map, HN1.out]; exact hfull), h250, hde, ← hE2]
              unfold putL
              rw [lk_not (plF_lt HF.out s) HE1.out hno, if_neg (by simp)]
              congr 3
              rw [List.set_append_right _ _ (by rw [HN1.out]; exact Nat.le_refl _), HN1.out, Nat.sub_self]
              unfold bksE
              rw [List.map_append]
              rfl)
            have hd : E2[n1]? = some d := by rw [← hE2, List.getElem?_append_right (by rw [HN1.out]; exact Nat.le_refl _), HN1.out, Nat.sub_self, hde]; rfl
            have HWN := Lib.hid hwN
            obtain ⟨i, hi⟩ : ∃ i, n1 = i := ⟨_, rfl⟩
            rw [hi] at hd HAK ⊢
            have hii : i < n2 := by omega
            rw [hE2, hn2] at HV1
            obtain ⟨A3, hA4⟩ : ∃ A3, A4 = A3 := ⟨_, rfl⟩
            obtain ⟨c3, hc4⟩ : ∃ c3, c4 = c3 := ⟨_, rfl⟩
            rw [hA4, hc4] at HV1
            rw [hA4, hc4]
            clear hA4 hc4 hE2 hde hno HBB HQL HQO HQE HFR hfull hfi
            have hn33 : n2 ≤ 33 := by omega
            clear hn2 hi
            have HP1 := True.intro
            obtain ⟨g, rfl, hgN, hgl, _⟩ := own_cells HV1.out.row (by omega)
            have hin2 : (i : Int) < (n2 : Int) := by omega
            have hYg : Y ≠ g := by omega
            have hgY : g ≠ Y := by omega
            have hwN : w.heap.size ≤ N0 := HWN.out
            have cY := HV1.out.y.cell 0
            have HRG := Lib.hid (show V1.rangeAt g (i * 19) (cellsE d) from fun j v hj => (HV1.out.cell hd (by omega) (by have := (List.getElem?_eq_some_iff.1 hj).1; rwa [cellsE_length] at this) hj).1)
            have HDL := Lib.hid (cellsE_length d)
            have HLV := Lib.hid (rlevel_any d t HDB.out.1 HDB.out.2.1 HDB.out.2.2 HT.out)
            have HD := Lib.hid hd
            obtain ⟨nn, hnn⟩ : ∃ nn, lev (d.2.2.1, d.2.2.2) t = nn := ⟨_, rfl⟩
            rw [hnn] at HLV
            have HNN := Lib.hid hnn
            obtain ⟨Q, hQ⟩ : ∃ Q, cellsE d = Q := ⟨_, rfl⟩
            rw [hQ] at HRG HDL HLV
            clear hd hnn hQ
            go_wp2_with (refine wpList_load_mid rfl 71 (.tmp 103) rfl g (i * 19) rfl Q _ HRG.out rfl rfl (by rw [HDL.out]; kernel_rfl) ?_)
            refine (HLV.out _).mono ?_
            rintro e V2 ⟨rfl, hb⟩
            have HV2 := Lib.hid (HV1.out.keep hb)
            clear hb HV1 HP1 cY HRG HLV
            have cY := HV2.out.y.cell 0
            have c18 := (HV2.out.cell HD.out (by omega) (by omega : 18 < 19) (cellsE_at d)).1
            have f18 := (HV2.out.cell HD.out (by omega) (by omega : 18 < 19) (cellsE_at d)).2
            go_upto_region 22 with fail
            obtain ⟨V3, hV3⟩ : ∃ V3, V2.setCell ⟨g, i * 19 + 18, none⟩ (.int .i64 t) = V3 := ⟨_, rfl⟩
            have HV3 := Lib.hid (show RV w Y N0 (E2.set i (d.1, d.2.1, d.2.2.1, t)) t (some ⟨g, 0, none⟩) n2 c3 V3 from by rw [← hV3]; exact HV2.out.set hYN hgN hwN HD.out (by omega) (cellsE_set18 d t))
            rw [hV3]
            clear hV3 HV2 cY c18 f18
            have HD3 := Lib.hid (show (E2.set i (d.1, d.2.1, d.2.2.1, t))[i]? = some (d.1, d.2.1, d.2.2.1, t) from List.getElem?_set_self (List.getElem?_eq_some_iff.1 HD.out).1)
            have cY := HV3.out.y.cell 0
            have c17 := (HV3.out.cell HD3.out (by omega) (by omega : 17 < 19) (cellsE_lev _)).1
            have f17 := (HV3.out.cell HD3.out (by omega) (by omega : 17 < 19) (cellsE_lev _)).2
            go_upto_region 23 with fail
            obtain ⟨V4, hV4⟩ : ∃ V4, V3.setCell ⟨g, i * 19 + 17, none⟩ (.int .i64 nn) = V4 := ⟨_, rfl⟩
            have HV4 := Lib.hid (show RV w Y N0 (E2.set i (d.1, d.2.1, nn, t)) t (some ⟨g, 0, none⟩) n2 c3 V4 from by
              rw [← hV4]
              have := HV3.out.set hYN hgN hwN HD3.out (by omega) (cellsE_set17 _ nn)
              rw [List.set_set] at this
              exact this)
            rw [hV4]
            clear hV4 HV3 cY c17 f17
            have HD4 := Lib.hid (show (E2.set i (d.1, d.2.1, nn, t))[i]? = some (d.1, d.2.1, nn, t) from List.getElem?_set_self (List.getElem?_eq_some_iff.1 HD.out).1)
            have hc50 : ¬ nn < 50 := by have := HC50.out nn HNN.out; omega
            have hnb : nn ≤ 250 := by rw [← HNN.out]; exact (lev_bounds (v := (d.2.2.1, d.2.2.2)) HDB.out.1 t).2
            have hw50 : IntKind.i64.wrap (nn - 50) = nn - 50 := by rw [IntKind.wrap_i64]; omega
            have cY := HV4.out.y.cell 0
            have c17 := (HV4.out.cell HD4.out (by omega) (by omega : 17 < 19) (cellsE_lev _)).1
            have f17 := (HV4.out.cell HD4.out (by omega) (by omega : 17 < 19) (cellsE_lev _)).2
            go_upto_region 26 with fail
            obtain ⟨V5, hV5⟩ : ∃ V5, V4.setCell ⟨g, i * 19 + 17, none⟩ (.int .i64 (nn - 50)) = V5 := ⟨_, rfl⟩
            have HV5 := Lib.hid (show RV w Y N0 (E2.set i (d.1, d.2.1, nn - 50, t)) t (some ⟨g, 0, none⟩) n2 c3 V5 from by
              rw [← hV5]
              have := HV4.out.set hYN hgN hwN HD4.out (by omega) (cellsE_set17 _ (nn - 50))
              rw [List.set_set] at this
              exact this)
            rw [hV5]
            clear hV5 HV4 cY c17 f17
            go_wp2_with fail
            go_ret2
            have HVE := HV5
            unfold AskR
            rw [HAK.out nn HNN.out]
            refine ⟨rfl, ⟨E2.set i (d.1, d.2.1, nn - 50, t), rfl, ?_, ?_⟩, HVE.out.two⟩
            · intro e he
              rcases List.mem_or_eq_of_mem_set he with he | he
              · exact HE2.out e he
              · rw [he]
                exact HE2.out d (List.mem_of_getElem? HD.out)
            · exact RW.more (HVE.out.rw (by rw [List.length_set]; exact HN2.out) hYN) hBN hYB
          · intro K hK
            have hql := HQL.out
            go_simp
            rw [fold_whole Q _ (by rw [HQL.out]; rfl)]
            have hS1 := Whole.alloc hS (.cells Q.toArray 71)
            refine hK.out _ _ hS1 ?_
            clear hK K
            try simp only [Act.put, List.setIfInBounds_toArray, List.set_cons_zero, List.set_cons_succ]
            have c4' : (V1.drew.alloc (.cells Q.toArray 71)).cell? ⟨Y, 0, none⟩ = some (.slice A3 n1 c3) := (Whole.alloc (show Whole V1.drew Y 31 #[.slice A3 n1 c3, .int .i64 t] from HV1.out.y) _).cell 0
            obtain ⟨Va, hVa⟩ : ∃ Va, (V1.alloc (.cells Q.toArray 71)).drew = Va := ⟨_, rfl⟩
            have hS1 : Whole (V1.alloc (.cells Q.toArray 71)).drew P 25 M := hS1
            have c4' : (V1.alloc (.cells Q.toArray 71)).drew.cell? ⟨Y, 0, none⟩ = some (.slice A3 n1 c3) := c4'
            rw [hVa] at hS1 c4' ⊢
            refine alone 4 rfl (by kernel_rfl) (by rfl) ?_
            intro K hK
            go_simp
            clear c4'
            refine hK.out _ _ hS1 ?_
            clear hK K
            try simp only [Act.put, List.setIfInBounds_toArray, List.set_cons_zero, List.set_cons_succ]
            subst hVa
            refine alone 9 rfl (by kernel_rfl) (by rfl) ?_
            intro K hK
            refine wp_pushS Q 19 _ _ 29 71 (.agg (cellsE (false, nought, 0, 0)).toArray) 40 Try.underlying29 infoB rfl (by omega) rfl rfl rfl (show V1.drew.ownsRow N0 71 19 (.slice A3 n1 c3) n1 (flat E1) from HV1.out.row) hNV HQL.out HQO.out (by omega) (by omega) ?_
            intro A4 c4 V2 hown4 hb4
            have hb5 : Below N0 V1 V2 := ⟨hb4.os, hb4.tape, hb4.output, hb4.size, hb4.block⟩
            have hS2 := Below.whole' hb5 HP1.out hPN
            refine hK.out _ _ hS2 ?_
            clear hK K hS hS1
            try simp only [Act.put, List.setIfInBounds_toArray, List.set_cons_zero, List.set_cons_succ]
            have hYV2 := Below.whole' hb5 HV1.out.y hYN
            have f0 : V2.frozen? ⟨Y, 0, none⟩ = false := Whole.free hYV2 0
            have y0 : V2.cell? ⟨Y, 0, none⟩ = some (.slice A3 n1 c3) := Whole.cell hYV2 0
            refine alone_run 10 _ rfl (by kernel_rfl) (by rfl) hS2 (by go_simp; try with_reducible rfl) ?_
            try simp only [Act.put, List.setIfInBounds_toArray, List.set_cons_zero, List.set_cons_succ]
            refine alone_run 11 _ rfl (by kernel_rfl) (by rfl) hS2 (by go_simp; try with_reducible rfl) ?_
            try simp only [Act.put, List.setIfInBounds_toArray, List.set_cons_zero, List.set_cons_succ]
            refine alone 12 rfl (by kernel_rfl) (by rfl) ?_
            intro K hK
            go_simp
            refine hK.out _ _ (Whole.far hS2 (by show P ≠ Y; omega) _) ?_
            clear hK K
            try simp only [Act.put, List.setIfInBounds_toArray, List.set_cons_zero, List.set_cons_succ]
            refine region_end (by kernel_rfl) ?_
            refine cut_post (F := Exit.then _ _) (fun V3 => RV w Y N0 (E1 ++ [(s, plF s f, 250, t)]) t A4 (n1 + 1) c4 V3) ⟨Whole.put hYV2 0 (.slice A4 (n1 + 1) c4), by rw [flat_snoc, HQE.out]; exact own_set' hown4 (by show Y < N0; exact hYN) _, (HV1.out.two.over2 hb5 hwN).trans (two_set V2 0 _)⟩ ?_
            clear hS2 HV1 HP1 hYV2 f0 y0 hown4 hb4 hb5
            intro V1 hV1
            have HV1 := Lib.hid hV1
            clear hV1
            obtain ⟨d, hde⟩ : ∃ d : Ent, d = (s, plF s f, 250, t) := ⟨_, rfl⟩
            obtain ⟨E2, hE2⟩ : ∃ E2, E1 ++ [(s, plF s f, (250 : Int), t)] = E2 := ⟨_, rfl⟩
            obtain ⟨n2, hn2⟩ : ∃ n2, n1 + 1 = n2 := ⟨_, rfl⟩
            have HN2 := Lib.hid (show E2.length = n2 from by rw [← hE2, List.length_append, HN1.out, ← hn2]; rfl)
            have HE2 := Lib.hid (show okE E2 from by
              rw [← hE2]
              intro e he
              rcases List.mem_append.1 he with he | he
              · exact HE1.out e he
              · rw [List.mem_singleton.1 he]; exact plF_lt HF.out s)
            have HDB := Lib.hid (show 0 ≤ d.2.2.1 ∧ d.2.2.1 ≤ 250 ∧ okT d.2.2.2 from by rw [hde]; exact ⟨by show (0 : Int) ≤ 250; omega, by show (250 : Int) ≤ 250; omega, HT.out⟩)
            have HC50 := Lib.hid (show ∀ nn, lev (d.2.2.1, d.2.2.2) t = nn → ¬ nn < 50 from fun nn hnn => by rw [← hnn, hde]; unfold lev; dsimp only; omega)
            have HAK := Lib.hid (show ∀ nn, lev (d.2.2.1, d.2.2.2) t = nn → ask (bksE Try.prog 57 E) last (some (klit Try.prog 57 s (plF s f) (bitsOf s))) t = (true, 0, bksE Try.prog 57 (E2.set n1 (d.1, d.2.1, nn - 50, t)), t) from by
              intro nn hnn
              have h250 : nn = 250 := by rw [← hnn, hde]; unfold lev; dsimp only; omega
              unfold ask
              dsimp only
              rw [if_neg (by rintro (k | k); exact k ht; omega), ← HLB.out, lk_not (plF_lt HF.out s) HE1.out hno]
              dsimp only
              rw [if_neg (by rw [bksE, List.length_map, HN1.out]; exact hfull), h250, hde, ← hE2]
              unfold putL
              rw [lk_not (plF_lt HF.out s) HE1.out hno, if_neg (by simp)]
              congr 3
              rw [List.set_append_right _ _ (by rw [HN1.out]; exact Nat.le_refl _), HN1.out, Nat.sub_self]
              unfold bksE
              rw [List.map_append]
              rfl)
            have hd : E2[n1]? = some d := by rw [← hE2, List.getElem?_append_right (by rw [HN1.out]; exact Nat.le_refl _), HN1.out, Nat.sub_self, hde]; rfl
            have HWN := Lib.hid hwN
            obtain ⟨i, hi⟩ : ∃ i, n1 = i := ⟨_, rfl⟩
            rw [hi] at hd HAK ⊢
            have hii : i < n2 := by omega
            rw [hE2, hn2] at HV1
            obtain ⟨A3, hA4⟩ : ∃ A3, A4 = A3 := ⟨_, rfl⟩
            obtain ⟨c3, hc4⟩ : ∃ c3, c4 = c3 := ⟨_, rfl⟩
            rw [hA4, hc4] at HV1
            rw [hA4, hc4]
            clear hA4 hc4 hE2 hde hno HBB HQL HQO HQE HFR hfull hfi
            have hn33 : n2 ≤ 33 := by omega
            clear hn2 hi
            have HP1 := True.intro
            obtain ⟨g, rfl, hgN, hgl, _⟩ := own_cells HV1.out.row (by omega)
            have hin2 : (i : Int) < (n2 : Int) := by omega
            have hYg : Y ≠ g := by omega
            have hgY : g ≠ Y := by omega
            have hwN : w.heap.size ≤ N0 := HWN.out
            have cY := HV1.out.y.cell 0
            have HRG := Lib.hid (show V1.rangeAt g (i * 19) (cellsE d) from fun j v hj => (HV1.out.cell hd (by omega) (by have := (List.getElem?_eq_some_iff.1 hj).1; rwa [cellsE_length] at this) hj).1)
            have HDL := Lib.hid (cellsE_length d)
            have HLV := Lib.hid (rlevel_any d t HDB.out.1 HDB.out.2.1 HDB.out.2.2 HT.out)
            have HD := Lib.hid hd
            obtain ⟨nn, hnn⟩ : ∃ nn, lev (d.2.2.1, d.2.2.2) t = nn := ⟨_, rfl⟩
            rw [hnn] at HLV
            have HNN := Lib.hid hnn
            obtain ⟨Q, hQ⟩ : ∃ Q, cellsE d = Q := ⟨_, rfl⟩
            rw [hQ] at HRG HDL HLV
            clear hd hnn hQ
            go_wp2_with (refine wpList_load_mid rfl 71 (.tmp 103) rfl g (i * 19) rfl Q _ HRG.out rfl rfl (by rw [HDL.out]; kernel_rfl) ?_)
            refine (HLV.out _).mono ?_
            rintro e V2 ⟨rfl, hb⟩
            have HV2 := Lib.hid (HV1.out.keep hb)
            clear hb HV1 HP1 cY HRG HLV
            have cY := HV2.out.y.cell 0
            have c18 := (HV2.out.cell HD.out (by omega) (by omega : 18 < 19) (cellsE_at d)).1
            have f18 := (HV2.out.cell HD.out (by omega) (by omega : 18 < 19) (cellsE_at d)).2
            go_upto_region 22 with fail
            obtain ⟨V3, hV3⟩ : ∃ V3, V2.setCell ⟨g, i * 19 + 18, none⟩ (.int .i64 t) = V3 := ⟨_, rfl⟩
            have HV3 := Lib.hid (show RV w Y N0 (E2.set i (d.1, d.2.1, d.2.2.1, t)) t (some ⟨g, 0, none⟩) n2 c3 V3 from by rw [← hV3]; exact HV2.out.set hYN hgN hwN HD.out (by omega) (cellsE_set18 d t))
            rw [hV3]
            clear hV3 HV2 cY c18 f18
            have HD3 := Lib.hid (show (E2.set i (d.1, d.2.1, d.2.2.1, t))[i]? = some (d.1, d.2.1, d.2.2.1, t) from List.getElem?_set_self (List.getElem?_eq_some_iff.1 HD.out).1)
            have cY := HV3.out.y.cell 0
            have c17 := (HV3.out.cell HD3.out (by omega) (by omega : 17 < 19) (cellsE_lev _)).1
            have f17 := (HV3.out.cell HD3.out (by omega) (by omega : 17 < 19) (cellsE_lev _)).2
            go_upto_region 23 with fail
            obtain ⟨V4, hV4⟩ : ∃ V4, V3.setCell ⟨g, i * 19 + 17, none⟩ (.int .i64 nn) = V4 := ⟨_, rfl⟩
            have HV4 := Lib.hid (show RV w Y N0 (E2.set i (d.1, d.2.1, nn, t)) t (some ⟨g, 0, none⟩) n2 c3 V4 from by
              rw [← hV4]
              have := HV3.out.set hYN hgN hwN HD3.out (by omega) (cellsE_set17 _ nn)
              rw [List.set_set] at this
              exact this)
            rw [hV4]
            clear hV4 HV3 cY c17 f17
            have HD4 := Lib.hid (show (E2.set i (d.1, d.2.1, nn, t))[i]? = some (d.1, d.2.1, nn, t) from List.getElem?_set_self (List.getElem?_eq_some_iff.1 HD.out).1)
            have hc50 : ¬ nn < 50 := by have := HC50.out nn HNN.out; omega
            have hnb : nn ≤ 250 := by rw [← HNN.out]; exact (lev_bounds (v := (d.2.2.1, d.2.2.2)) HDB.out.1 t).2
            have hw50 : IntKind.i64.wrap (nn - 50) = nn - 50 := by rw [IntKind.wrap_i64]; omega
            have cY := HV4.out.y.cell 0
            have c17 := (HV4.out.cell HD4.out (by omega) (by omega : 17 < 19) (cellsE_lev _)).1
            have f17 := (HV4.out.cell HD4.out (by omega) (by omega : 17 < 19) (cellsE_lev _)).2
            go_upto_region 26 with fail
            obtain ⟨V5, hV5⟩ : ∃ V5, V4.setCell ⟨g, i * 19 + 17, none⟩ (.int .i64 (nn - 50)) = V5 := ⟨_, rfl⟩
            have HV5 := Lib.hid (show RV w Y N0 (E2.set i (d.1, d.2.1, nn - 50, t)) t (some ⟨g, 0, none⟩) n2 c3 V5 from by
              rw [← hV5]
              have := HV4.out.set hYN hgN hwN HD4.out (by omega) (cellsE_set17 _ (nn - 50))
              rw [List.set_set] at this
              exact this)
            rw [hV5]
            clear hV5 HV4 cY c17 f17
            go_wp2_with fail
            go_ret2
            have HVE := HV5
            unfold AskR
            rw [HAK.out nn HNN.out]
            refine ⟨rfl, ⟨E2.set i (d.1, d.2.1, nn - 50, t), rfl, ?_, ?_⟩, HVE.out.two⟩
            · intro e he
              rcases List.mem_or_eq_of_mem_set he with he | he
              · exact HE2.out e he
              · rw [he]
                exact HE2.out d (List.mem_of_getElem? HD.out)
            · exact RW.more (HVE.out.rw (by rw [List.length_set]; exact HN2.out) hYN) hBN hYB

      · subst hri
        have HDB := Lib.hid (show 0 ≤ d.2.2.1 ∧ d.2.2.1 ≤ 250 ∧ okT d.2.2.2 from by
          have := (good_left HG.out ht hl).ok (toBk Try.prog 57 d) (by rw [← HLB.out]; exact List.mem_map.2 ⟨d, List.mem_of_getElem? hd, rfl⟩)
          exact ⟨this.1, this.2.1, this.2.2.1⟩)
        by_cases hc : lev (d.2.2.1, d.2.2.2) t < 50
        · have HWN := Lib.hid (show w.heap.size ≤ N0 from by omega)
          have hAK : ∀ nn, lev (d.2.2.1, d.2.2.2) t = nn → ask (bksE Try.prog 57 E) last (some (klit Try.prog 57 s (plF s f) (bitsOf s))) t = (false, 0, bksE Try.prog 57 (E1.set i (d.1, d.2.1, nn, t)), t) := by
            intro nn hnn
            unfold ask
            dsimp only
            rw [if_neg (by rintro (k | k); exact k ht; omega), ← HLB.out, lk_at (plF_lt HF.out s) HE1.out hd hsame hfirst]
            dsimp only
            rw [hnn, if_pos (by rw [← hnn]; omega), put_at (plF_lt HF.out s) HE1.out (by rw [HLB.out]; exact nodup_filter HG.out.nd _) hd hsame]
          have HAK := Lib.hid hAK
          clear hAK
          have hii := (List.getElem?_eq_some_iff.1 hd).1
          rw [HN1.out] at hii
          have hi0 : ¬ (i : Int) < 0 := by omega
          have HC50 := Lib.hid (show ∀ nn, lev (d.2.2.1, d.2.2.2) t = nn → nn < 50 from fun nn hnn => by rw [← hnn]; exact hc)
          obtain ⟨n2, hn2⟩ : ∃ n2, n1 = n2 := ⟨_, rfl⟩
          obtain ⟨E2, hE2⟩ : ∃ E2, E1 = E2 := ⟨_, rfl⟩
          rw [hE2, hn2] at HV1 HN1
          rw [hE2] at hd HE1 HAK
          rw [hn2] at hii ⊢
          have HE2 := HE1
          have HN2 := HN1
          clear hsame hfirst HFR hc hE2 hn2
          obtain ⟨g, rfl, hgN, hgl, _⟩ := own_cells HV1.out.row (by omega)
          have hin2 : (i : Int) < (n2 : Int) := by omega
          have hYg : Y ≠ g := by omega
          have hgY : g ≠ Y := by omega
          have hwN : w.heap.size ≤ N0 := HWN.out
          have cY := HV1.out.y.cell 0
          have HRG := Lib.hid (show V1.rangeAt g (i * 19) (cellsE d) from fun j v hj => (HV1.out.cell hd (by omega) (by have := (List.getElem?_eq_some_iff.1 hj).1; rwa [cellsE_length] at this) hj).1)
          have HDL := Lib.hid (cellsE_length d)
          have HLV := Lib.hid (rlevel_any d t HDB.out.1 HDB.out.2.1 HDB.out.2.2 HT.out)
          have HD := Lib.hid hd
          obtain ⟨nn, hnn⟩ : ∃ nn, lev (d.2.2.1, d.2.2.2) t = nn := ⟨_, rfl⟩
          rw [hnn] at HLV
          have HNN := Lib.hid hnn
          obtain ⟨Q, hQ⟩ : ∃ Q, cellsE d = Q := ⟨_, rfl⟩
          rw [hQ] at HRG HDL HLV
          clear hd hnn hQ
          go_wp2_with (refine wpList_load_mid rfl 71 (.tmp 103) rfl g (i * 19) rfl Q _ HRG.out rfl rfl (by rw [HDL.out]; kernel_rfl) ?_)
          refine (HLV.out _).mono ?_
          rintro e V2 ⟨rfl, hb⟩
          have HV2 := Lib.hid (HV1.out.keep hb)
          clear hb HV1 HP1 cY HRG HLV
          have cY := HV2.out.y.cell 0
          have c18 := (HV2.out.cell HD.out (by omega) (by omega : 18 < 19) (cellsE_at d)).1
          have f18 := (HV2.out.cell HD.out (by omega) (by omega : 18 < 19) (cellsE_at d)).2
          go_upto_region 22 with fail
          obtain ⟨V3, hV3⟩ : ∃ V3, V2.setCell ⟨g, i * 19 + 18, none⟩ (.int .i64 t) = V3 := ⟨_, rfl⟩
          have HV3 := Lib.hid (show RV w Y N0 (E2.set i (d.1, d.2.1, d.2.2.1, t)) t (some ⟨g, 0, none⟩) n2 c3 V3 from by rw [← hV3]; exact HV2.out.set hYN hgN hwN HD.out (by omega) (cellsE_set18 d t))
          rw [hV3]
          clear hV3 HV2 cY c18 f18
          have HD3 := Lib.hid (show (E2.set i (d.1, d.2.1, d.2.2.1, t))[i]? = some (d.1, d.2.1, d.2.2.1, t) from List.getElem?_set_self (List.getElem?_eq_some_iff.1 HD.out).1)
          have cY := HV3.out.y.cell 0
          have c17 := (HV3.out.cell HD3.out (by omega) (by omega : 17 < 19) (cellsE_lev _)).1
          have f17 := (HV3.out.cell HD3.out (by omega) (by omega : 17 < 19) (cellsE_lev _)).2
          go_upto_region 23 with fail
          obtain ⟨V4, hV4⟩ : ∃ V4, V3.setCell ⟨g, i * 19 + 17, none⟩ (.int .i64 nn) = V4 := ⟨_, rfl⟩
          have HV4 := Lib.hid (show RV w Y N0 (E2.set i (d.1, d.2.1, nn, t)) t (some ⟨g, 0, none⟩) n2 c3 V4 from by
            rw [← hV4]
            have := HV3.out.set hYN hgN hwN HD3.out (by omega) (cellsE_set17 _ nn)
            rw [List.set_set] at this
            exact this)
          rw [hV4]
          clear hV4 HV3 cY c17 f17
          have HD4 := Lib.hid (show (E2.set i (d.1, d.2.1, nn, t))[i]? = some (d.1, d.2.1, nn, t) from List.getElem?_set_self (List.getElem?_eq_some_iff.1 HD.out).1)
          have hc50 : nn < 50 := HC50.out nn HNN.out
          go_wp2_with fail
          go_ret2
          have HVE := HV4
          unfold AskR
          rw [HAK.out nn HNN.out]
          refine ⟨rfl, ⟨E2.set i (d.1, d.2.1, nn, t), rfl, ?_, ?_⟩, HVE.out.two⟩
          · intro e he
            rcases List.mem_or_eq_of_mem_set he with he | he
            · exact HE2.out e he
            · rw [he]
              exact HE2.out d (List.mem_of_getElem? HD.out)
          · exact RW.more (HVE.out.rw (by rw [List.length_set]; exact HN2.out) hYN) hBN hYB
        · have HWN := Lib.hid (show w.heap.size ≤ N0 from by omega)
          have hAK : ∀ nn, lev (d.2.2.1, d.2.2.2) t = nn → ask (bksE Try.prog 57 E) last (some (klit Try.prog 57 s (plF s f) (bitsOf s))) t = (true, 0, bksE Try.prog 57 (E1.set i (d.1, d.2.1, nn - 50, t)), t) := by
            intro nn hnn
            unfold ask
            dsimp only
            rw [if_neg (by rintro (k | k); exact k ht; omega), ← HLB.out, lk_at (plF_lt HF.out s) HE1.out hd hsame hfirst]
            dsimp only
            rw [hnn, if_neg (by rw [← hnn]; omega), put_at (plF_lt HF.out s) HE1.out (by rw [HLB.out]; exact nodup_filter HG.out.nd _) hd hsame]
          have HAK := Lib.hid hAK
          clear hAK
          have hii := (List.getElem?_eq_some_iff.1 hd).1
          rw [HN1.out] at hii
          have hi0 : ¬ (i : Int) < 0 := by omega
          have HC50 := Lib.hid (show ∀ nn, lev (d.2.2.1, d.2.2.2) t = nn → ¬ nn < 50 from fun nn hnn => by rw [← hnn]; exact hc)
          obtain ⟨n2, hn2⟩ : ∃ n2, n1 = n2 := ⟨_, rfl⟩
          obtain ⟨E2, hE2⟩ : ∃ E2, E1 = E2 := ⟨_, rfl⟩
          rw [hE2, hn2] at HV1 HN1
          rw [hE2] at hd HE1 HAK
          rw [hn2] at hii ⊢
          have HE2 := HE1
          have HN2 := HN1
          clear hsame hfirst HFR hc hE2 hn2
          obtain ⟨g, rfl, hgN, hgl, _⟩ := own_cells HV1.out.row (by omega)
          have hin2 : (i : Int) < (n2 : Int) := by omega
          have hYg : Y ≠ g := by omega
          have hgY : g ≠ Y := by omega
          have hwN : w.heap.size ≤ N0 := HWN.out
          have cY := HV1.out.y.cell 0
          have HRG := Lib.hid (show V1.rangeAt g (i * 19) (cellsE d) from fun j v hj => (HV1.out.cell hd (by omega) (by have := (List.getElem?_eq_some_iff.1 hj).1; rwa [cellsE_length] at this) hj).1)
          have HDL := Lib.hid (cellsE_length d)
          have HLV := Lib.hid (rlevel_any d t HDB.out.1 HDB.out.2.1 HDB.out.2.2 HT.out)
          have HD := Lib.hid hd
          obtain ⟨nn, hnn⟩ : ∃ nn, lev (d.2.2.1, d.2.2.2) t = nn := ⟨_, rfl⟩
          rw [hnn] at HLV
          have HNN := Lib.hid hnn
          obtain ⟨Q, hQ⟩ : ∃ Q, cellsE d = Q := ⟨_, rfl⟩
          rw [hQ] at HRG HDL HLV
          clear hd hnn hQ
          go_wp2_with (refine wpList_load_mid rfl 71 (.tmp 103) rfl g (i * 19) rfl Q _ HRG.out rfl rfl (by rw [HDL.out]; kernel_rfl) ?_)
          refine (HLV.out _).mono ?_
          rintro e V2 ⟨rfl, hb⟩
          have HV2 := Lib.hid (HV1.out.keep hb)
          clear hb HV1 HP1 cY HRG HLV
          have cY := HV2.out.y.cell 0
          have c18 := (HV2.out.cell HD.out (by omega) (by omega : 18 < 19) (cellsE_at d)).1
          have f18 := (HV2.out.cell HD.out (by omega) (by omega : 18 < 19) (cellsE_at d)).2
          go_upto_region 22 with fail
          obtain ⟨V3, hV3⟩ : ∃ V3, V2.setCell ⟨g, i * 19 + 18, none⟩ (.int .i64 t) = V3 := ⟨_, rfl⟩
          have HV3 := Lib.hid (show RV w Y N0 (E2.set i (d.1, d.2.1, d.2.2.1, t)) t (some ⟨g, 0, none⟩) n2 c3 V3 from by rw [← hV3]; exact HV2.out.set hYN hgN hwN HD.out (by omega) (cellsE_set18 d t))
          rw [hV3]
          clear hV3 HV2 cY c18 f18
          have HD3 := Lib.hid (show (E2.set i (d.1, d.2.1, d.2.2.1, t))[i]? = some (d.1, d.2.1, d.2.2.1, t) from List.getElem?_set_self (List.getElem?_eq_some_iff.1 HD.out).1)
          have cY := HV3.out.y.cell 0
          have c17 := (HV3.out.cell HD3.out (by omega) (by omega : 17 < 19) (cellsE_lev _)).1
          have f17 := (HV3.out.cell HD3.out (by omega) (by omega : 17 < 19) (cellsE_lev _)).2
          go_upto_region 23 with fail
          obtain ⟨V4, hV4⟩ : ∃ V4, V3.setCell ⟨g, i * 19 + 17, none⟩ (.int .i64 nn) = V4 := ⟨_, rfl⟩
          have HV4 := Lib.hid (show RV w Y N0 (E2.set i (d.1, d.2.1, nn, t)) t (some ⟨g, 0, none⟩) n2 c3 V4 from by
            rw [← hV4]
            have := HV3.out.set hYN hgN hwN HD3.out (by omega) (cellsE_set17 _ nn)
            rw [List.set_set] at this
            exact this)
          rw [hV4]
          clear hV4 HV3 cY c17 f17
          have HD4 := Lib.hid (show (E2.set i (d.1, d.2.1, nn, t))[i]? = some (d.1, d.2.1, nn, t) from List.getElem?_set_self (List.getElem?_eq_some_iff.1 HD.out).1)
          have hc50 : ¬ nn < 50 := by have := HC50.out nn HNN.out; omega
          have hnb : nn ≤ 250 := by rw [← HNN.out]; exact (lev_bounds (v := (d.2.2.1, d.2.2.2)) HDB.out.1 t).2
          have hw50 : IntKind.i64.wrap (nn - 50) = nn - 50 := by rw [IntKind.wrap_i64]; omega
          have cY := HV4.out.y.cell 0
          have c17 := (HV4.out.cell HD4.out (by omega) (by omega : 17 < 19) (cellsE_lev _)).1
          have f17 := (HV4.out.cell HD4.out (by omega) (by omega : 17 < 19) (cellsE_lev _)).2
          go_upto_region 26 with fail
          obtain ⟨V5, hV5⟩ : ∃ V5, V4.setCell ⟨g, i * 19 + 17, none⟩ (.int .i64 (nn - 50)) = V5 := ⟨_, rfl⟩
          have HV5 := Lib.hid (show RV w Y N0 (E2.set i (d.1, d.2.1, nn - 50, t)) t (some ⟨g, 0, none⟩) n2 c3 V5 from by
            rw [← hV5]
            have := HV4.out.set hYN hgN hwN HD4.out (by omega) (cellsE_set17 _ (nn - 50))
            rw [List.set_set] at this
            exact this)
          rw [hV5]
          clear hV5 HV4 cY c17 f17
          go_wp2_with fail
          go_ret2
          have HVE := HV5
          unfold AskR
          rw [HAK.out nn HNN.out]
          refine ⟨rfl, ⟨E2.set i (d.1, d.2.1, nn - 50, t), rfl, ?_, ?_⟩, HVE.out.two⟩
          · intro e he
            rcases List.mem_or_eq_of_mem_set he with he | he
            · exact HE2.out e he
            · rw [he]
              exact HE2.out d (List.mem_of_getElem? HD.out)
          · exact RW.more (HVE.out.rw (by rw [List.length_set]; exact HN2.out) hYN) hBN hYB
theorem rallow_any (Y B : Nat) (E : List Ent) (last : Int) (hE : okE E) (hG : Good (bksE Try.prog 57 E) last) (s : Bool) (f : Nat → Nat) (hf : ∀ i, f i < 256) (t : Int) (w : World) (h : RW w Y B E last) (hB : B ≤ w.heap.size) :
    Calls Try.prog 11 #[.pointer (some ⟨Y, 0, none⟩), .agg (addrL s f).toArray, .int .i64 t] w (AskR w Y B E last (placeO Try.prog 57 s f) t) := by
  cases hr : rightB s f
  · exact rallow_addr Y B E last hE hG s f hf t hr w h hB
  · by_cases ht : ¬ okT t ∨ t < last
    · exact rallow_time Y B E last hE hG s f hf t hr ht w h hB
    · exact rallow_ok Y B E last hE hG s f hf t hr (Decidable.not_not.1 (not_or.1 ht).1) (Int.not_lt.1 (not_or.1 ht).2) w h hB

end Lim
end Go.Proofs.Ytlccgplgbokgkaa
