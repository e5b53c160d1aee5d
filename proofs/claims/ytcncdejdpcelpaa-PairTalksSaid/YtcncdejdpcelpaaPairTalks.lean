/- 'aditlaw20.PairTalks' returns true at every input and writes nothing that was there: the walk. No condition. -/
import Derived.Test.YtcncdejdpcelpaaPairEnds
import Derived.Test.YtcncdejdpcelpaaPairEq
import Derived.Test.YtcncdejdpcelpaaPairOpenW
import Derived.Test.YtcncdejdpcelpaaSlicesK
import Derived.Deep.DeepCutAuto
namespace Go.Proofs.Ytcncdejdpcelpaa
namespace PairTalks
open Go.ChangeShapes Go.WideShapes Go.ChangeAt Go.RowKit
open Num Mem Words Chacha Aead Poly Ops Quiet WinT Win Pr

/-- the messages as a row of cells -/
def rowL (m : Nat) (D : Nat → Value) (k : Nat) : List Value := (List.range k).flatMap fun j => dataL m j (D j)
theorem rowL_succ (m : Nat) (D : Nat → Value) (k : Nat) : rowL m D (k + 1) = rowL m D k ++ dataL m k (D k) := by
  unfold rowL
  rw [List.range_succ, List.flatMap_append]
  simp
theorem rowL_length (m : Nat) (D : Nat → Value) (k : Nat) : (rowL m D k).length = k * 3 := by
  induction k with
  | zero => rfl
  | succ k ih => rw [rowL_succ, List.length_append, ih]; show k * 3 + 3 = _; omega
theorem rowL_congr (m : Nat) (D E : Nat → Value) (k : Nat) (h : ∀ j, j < k → D j = E j) : rowL m D k = rowL m E k := by
  induction k with
  | zero => rfl
  | succ k ih => rw [rowL_succ, rowL_succ, ih (fun j hj => h j (by omega)), h k (by omega)]
theorem rowL_get (m : Nat) (D : Nat → Value) : ∀ (k j i : Nat), j < k → i < 3 → (rowL m D k)[j * 3 + i]? = (dataL m j (D j))[i]?
  | 0, _, _, h, _ => by omega
  | k + 1, j, i, h, hi => by
    rw [rowL_succ]
    by_cases hj : j < k
    · rw [List.getElem?_append_left (by rw [rowL_length]; omega)]
      exact rowL_get m D k j i hj hi
    · obtain rfl : j = k := by omega
      rw [List.getElem?_append_right (by rw [rowL_length]; omega), rowL_length, Nat.add_sub_cancel_left]
/-- a box of the j-th text -/
def Box (B : Nat) (s : Nat → Nat) (N : Nat → Nat) (F : Nat → Nat → Nat) (j : Nat) (v : Value) (w : World) : Prop :=
  ∃ A c, v = .slice A (N j + 16) (N j + 16) ∧ Own w B 5 A (N j + 16) c (boxF s (bn (byteAt j)) (F j) (N j) (fun _ => 0) 0)
theorem Box.kp {B : Nat} {s : Nat → Nat} {N : Nat → Nat} {F : Nat → Nat → Nat} {j : Nat} {v : Value} {X Y : World} (h : Box B s N F j v X) (hk : Kp 5 X Y) : Box B s N F j v Y := by
  obtain ⟨A, c, e, ho⟩ := h
  exact ⟨A, c, e, hk.row ho⟩
/-- what stays through both loops -/
structure TW (w : World) (s : Nat → Nat) (m : Nat) (N : Nat → Nat) (F : Nat → Nat → Nat) (k : Nat) (AL : Option Addr) (cl : Nat) (D : Nat → Value) (X : World) : Prop where
  row : X.ownsRow w.heap.size 41 3 (.slice AL k cl) k (rowL m D k)
  box : ∀ j, j < k → Box w.heap.size s N F j (D j) X
  bel : Below w.heap.size w X
theorem TW.step {w : World} {s : Nat → Nat} {m : Nat} {N : Nat → Nat} {F : Nat → Nat → Nat} {k : Nat} {AL : Option Addr} {cl : Nat} {D : Nat → Value} {X Y : World} (h : TW w s m N F k AL cl D X) (h1 : Kp 41 X Y) (h2 : Kp 5 X Y) (hb : Below w.heap.size w Y) : TW w s m N F k AL cl D Y :=
  ⟨h1.row h.row, fun j hj => (h.box j hj).kp h2, hb⟩
theorem TW.below {w : World} {s : Nat → Nat} {m : Nat} {N : Nat → Nat} {F : Nat → Nat → Nat} {k : Nat} {AL : Option Addr} {cl : Nat} {D : Nat → Value} {X Y : World} (h : TW w s m N F k AL cl D X) (hb : Below X.heap.size X Y) : TW w s m N F k AL cl D Y :=
  h.step (Kp.below hb) (Kp.below hb) (below_trans h.bel hb)
theorem old_in (s r : Nat → Nat) (l m : Nat) (one : Bool) (born d : Int) (sent : Nat) (win : St) (h0 : 0 ≤ born) (h1 : born ≤ 1099511427776) (hd : 0 ≤ d) (hd2 : d ≤ 1000) : oldB ⟨s, r, l, m, one, born, sent, win⟩ (born + d) = false := by
  unfold oldB rightT
  have e1 : decide (0 ≤ born + d) = true := decide_eq_true (by omega)
  have e2 : decide (born + d ≤ 1099511627776) = true := decide_eq_true (by omega)
  have e3 : decide (born + d < born) = false := decide_eq_false (by omega)
  have e4 : decide (born ≤ born + d - 180000) = false := decide_eq_false (by omega)
  show (!(decide (0 ≤ born + d) && decide (born + d ≤ 1099511627776)) || (decide (born + d < born) || decide (born ≤ born + d - 180000))) = false
  rw [e1, e2, e3, e4]
  rfl
def boolL (c : Nat → Bool) : List Value := (List.range 20).map fun j => .bool (c j)
theorem boolL_get (c : Nat → Bool) (j : Nat) (h : j < 20) : (boolL c).toArray[j]? = some (.bool (c j)) := by
  rw [List.getElem?_toArray]
  unfold boolL
  rw [List.getElem?_map, List.getElem?_range h]
  rfl
theorem boolL_set (c : Nat → Bool) (k : Nat) : (boolL c).toArray.setIfInBounds k (.bool true) = (boolL fun j => if j = k then true else c j).toArray := by
  rw [List.setIfInBounds_toArray]
  congr 1
  apply List.ext_getElem?
  intro i
  unfold boolL
  rw [List.getElem?_set, List.getElem?_map, List.getElem?_map, List.length_map, List.length_range]
  by_cases hi : i < 20
  · rw [List.getElem?_range hi]
    by_cases hk : k = i
    · subst hk
      rw [if_pos rfl, if_pos hi]
      simp
    · rw [if_neg hk]
      simp [Ne.symm hk]
  · rw [List.getElem?_eq_none (by simp; omega)]
    by_cases hk : k = i
    · subst hk
      rw [if_pos rfl, if_neg hi]
      rfl
    · rw [if_neg hk]
      rfl
theorem zero_bools (w : World) : (zeroValue 45).run Try.prog w = .ok (.agg (boolL fun _ => false).toArray) w := by kernel_rfl
theorem cells_congr {f g : Nat → Nat} {n : Nat} (h : ∀ i, i < n → f i = g i) : byteCells f n = byteCells g n := by
  apply List.ext_getElem?
  intro i
  by_cases hi : i < n
  · rw [byteCells_get _ _ _ hi, byteCells_get _ _ _ hi, h i hi]
  · rw [List.getElem?_eq_none (by rw [byteCells_length]; omega), List.getElem?_eq_none (by rw [byteCells_length]; omega)]
/-- the second loop's state -/
structure L2 (w : World) (s : Nat → Nat) (m : Nat) (N : Nat → Nat) (F : Nat → Nat → Nat) (n : Nat) (AL : Option Addr) (cl : Nat) (D : Nat → Value) (G Gc : Nat) (LA : List Value) (Pb : PS) (cm : Nat → Bool) (st : St) (TL : List Nat) (X : World) : Prop where
  tw : TW w s m N F n AL cl D X
  ga : Whole X G 35 LA.toArray
  gb : Whole X (G + 1) 35 (pairL { Pb with win := st }).toArray
  gc : Whole X Gc 45 (boolL cm).toArray
  is : Is st TL
  mem : ∀ j, j ∈ TL ↔ j < n ∧ cm j = true
theorem L2.below {w : World} {s : Nat → Nat} {m : Nat} {N : Nat → Nat} {F : Nat → Nat → Nat} {n : Nat} {AL : Option Addr} {cl : Nat} {D : Nat → Value} {G Gc : Nat} {LA : List Value} {Pb : PS} {cm : Nat → Bool} {st : St} {TL : List Nat} {X Y : World}
    (h : L2 w s m N F n AL cl D G Gc LA Pb cm st TL X) (hb : Below X.heap.size X Y) : L2 w s m N F n AL cl D G Gc LA Pb cm st TL Y :=
  ⟨h.tw.below hb, h.ga.below hb h.ga.lt, h.gb.below hb h.gb.lt, h.gc.below hb h.gc.lt, h.is, h.mem⟩
theorem row_at {w : World} {B e size n c : Nat} {A : Option Addr} {xs : List Value} (h : w.ownsRow B e size (.slice A n c) n xs) (hn : 0 < n) :
    ∃ g, A = some ⟨g, 0, none⟩ ∧ g < w.heap.size ∧ n ≤ c ∧ ∀ i v, xs[i]? = some v → w.cell? ⟨g, i, none⟩ = some v := by
  rcases h.2 with ⟨_, h0⟩ | ⟨g, cap, cur, e1, hB, hh, hc, _, _, ht⟩
  · omega
  · injection e1 with e1 e2 e3
    subst e3
    have hw : Whole w g e cur := hh
    refine ⟨g, e1, hw.lt, hc, fun i v hv => ?_⟩
    rw [hw.cell, ← Array.getElem?_toList]
    rw [← ht, List.getElem?_take] at hv
    split at hv
    · exact hv
    · cases hv
theorem check_came {st : St} {TL : List Nat} (h : Is st TL) {k : Nat} (hk : k ∈ TL) (h20 : k < 20) : check st k = 80 := by
  rw [check_is h, if_neg (by unfold spent; omega), if_pos (.inl hk)]
theorem check_new {st : St} {TL : List Nat} (h : Is st TL) {k : Nat} (hk : k ∉ TL) (h20 : k < 20) (hT : ∀ j ∈ TL, j < 20) : check st k = 0 := by
  rw [check_is h, if_neg (by unfold spent; omega), if_neg]
  rintro (h1 | ⟨h1, h2⟩)
  · exact hk h1
  · rcases h.top with ⟨h3, _⟩ | ⟨h3, h4⟩
    · omega
    · have := hT _ h4
      omega
/-- what is known of the operations of 'x, y, e := p.Open(m, t)' -/
def openPhi (LV : Array Value) (E : Int) (R : Value → World → Prop) (M : List Value) (W : World) (k : Nat) (v : Value) (w : World) : Prop :=
  match k with
  | 1 => ∃ x, v = .tuple #[.agg LV, x, .int .i64 E] ∧ R x w
  | 2 => ∃ x, v = .tuple #[.agg LV, x, .int .i64 E] ∧ R x w
  | 3 => v = .agg LV
  | 4 => ∃ x, v = x ∧ R x w
  | 5 => v = .int .i64 E
  | _ => ∃ g, v = .pointer (some ⟨g, 0, none⟩) ∧ W.heap.size ≤ g ∧ Whole w g 35 M.toArray
theorem openPhi_stays {LV : Array Value} {E : Int} {R : Value → World → Prop} {M : List Value} {W : World} (hR : ∀ x w w', R x w → Below w.heap.size w w' → R x w') {k : Nat} {v : Value} {w w' : World}
    (h : openPhi LV E R M W k v w) (hb : Below w.heap.size w w') : openPhi LV E R M W k v w' := by
  unfold openPhi at h ⊢
  split at h
  · obtain ⟨x, e, h⟩ := h; exact ⟨x, e, hR _ _ _ h hb⟩
  · obtain ⟨x, e, h⟩ := h; exact ⟨x, e, hR _ _ _ h hb⟩
  · exact h
  · obtain ⟨x, e, h⟩ := h; exact ⟨x, e, hR _ _ _ h hb⟩
  · exact h
  · obtain ⟨g, e, h1, h2⟩ := h; exact ⟨g, e, h1, h2.below hb h2.lt⟩
theorem infoD : (Try.prog.info? 41).map (fun i => (i.zero, i.size, i.bytes)) = some (some (.agg (dataL 0 0 (.slice none 0 0)).toArray), 3, 40) := by kernel_rfl
theorem fold_set (Q : List Value) : ∀ (zs : List Value) (k : Nat) (pre : List Value), pre.length = k → Q.length = zs.length → List.foldl (fun (cs : Array Value) (x : Value × Nat) => cs.setIfInBounds x.2 x.1) (pre ++ zs).toArray (Q.zipIdx k) = (pre ++ Q).toArray := by
  induction Q with
  | nil =>
    intro zs k pre _ h
    obtain rfl : zs = [] := List.eq_nil_of_length_eq_zero h.symm
    rfl
  | cons q Q ih =>
    intro zs k pre hp h
    obtain ⟨z, zs, rfl⟩ : ∃ z r, zs = z :: r := by
      cases zs with
      | nil => simp at h
      | cons z r => exact ⟨z, r, rfl⟩
    rw [List.zipIdx_cons, List.foldl_cons]
    dsimp only
    have e : (pre ++ z :: zs).toArray.setIfInBounds k q = ((pre ++ [q]) ++ zs).toArray := by
      rw [List.setIfInBounds_toArray]
      congr 1
      rw [List.set_append_right _ _ (by omega), hp, Nat.sub_self, List.set_cons_zero, List.append_assoc]
      rfl
    rw [e, ih zs (k + 1) (pre ++ [q]) (by rw [List.length_append, hp]; rfl) (by simpa using h), List.append_assoc]
    rfl
theorem fold_whole (Q : List Value) (zs : Array Value) (h : Q.length = zs.size) : List.foldl (fun (cs : Array Value) (x : Value × Nat) => cs.setIfInBounds x.2 x.1) zs Q.zipIdx = Q.toArray := by
  have := fold_set Q zs.toList 0 [] rfl (by simpa using h)
  simpa using this
theorem news_new (w : World) (us : List Value) (t : TypeId) : ∀ j x, us[j]? = some x → (w.alloc (.cells us.toArray t)).cell? ((⟨w.heap.size, 0, none⟩ : Addr).add j) = some x := by
  intro j x hj
  have h := (Whole.new w t us.toArray).cell j
  have e : (⟨w.heap.size, 0, none⟩ : Addr).add j = ⟨w.heap.size, j, none⟩ := by unfold Addr.add; split <;> simp_all
  rw [e, h, List.getElem?_toArray]
  exact hj
/-- append of one element of several cells to a row of one's own: other types' blocks stay -/
theorem wpList_pushT {P : Program} {ops : Array Oper} {rest : List Oper} {o : Oper} {a : Act} {Q : Exit → Act → World → Prop} {w : World} {B k c : Nat} {A : Option Addr} {xs : List Value} (us : List Value) (size : Nat) (hgd : o.guard = none) (s x : Operand) (t e : TypeId) (z : Value) (by_ : Nat)
    (ht : P.underlying t = some (.slice e)) (hinfo : (P.info? e).map (fun i => (i.zero, i.size, i.bytes)) = some (some z, size, by_)) (hz : z.cells.size = size) (h0 : 0 < size)
    (ho : o.op = .call { callee := .builtin .append, args := #[s, x], argTypes := #[t, t] })
    (hs : a.eval s = .slice A k c) (hx : a.eval x = .slice (some ⟨w.heap.size, 0, none⟩) 1 1) (own : w.ownsRow B e size (.slice A k c) k xs) (hB : B ≤ w.heap.size)
    (hl : us.length = size) (h1 : ∀ u ∈ us, u.oneCell' = true) (hk : (k + 1) * by_ ≤ 140737488355328) (hk2 : k + 1 ≤ 140737488355328)
    (h : ∀ A' c' w', w'.ownsRow B e size (.slice A' (k + 1) c') (k + 1) (xs ++ us) → Below B w w' → (∀ T, e ≠ T → Kp T w w') → wpList P ops Q rest (a.put o.dst (.slice A' (k + 1) c')) w') :
    wpList P ops Q (o :: rest) a (w.alloc (.cells us.toArray e)) := by
  obtain ⟨i0, hi, hz0, hz1, hz2⟩ := info_parts hinfo
  refine wpList_append_own _ hgd s x t ho B e i0 z size by_ ht hi hz0 hz1 hz2 hz h0 (.slice A k c) k xs hs (World.ownsRow.alloc own _) ⟨w.heap.size, 0, none⟩ 1 1 us hx (by rw [Nat.one_mul]; exact hl) (news_new _ _ _)
    h1 (by simp only [maxLen]; omega) hk (by simp; omega) ?_
  intro v' w' g1 g2 _
  have hbel := keeps_row (World.ownsRow.alloc own (.cells us.toArray e)) ((Below.refl B w).alloc hB _) g2 (Nat.le_trans hB (by simp))
  have hkp : ∀ T, e ≠ T → Kp T w w' := fun T hT => (Kp.below ((Below.refl _ _).alloc (Nat.le_refl _) _)).trans (Kp.grown g2 (World.ownsRow.alloc own _) hT)
  rcases g1.2 with ⟨_, h0⟩ | ⟨g, cap, cur, rfl, r⟩
  · omega
  · exact h _ _ w' g1 hbel hkp

set_option maxRecDepth 100000 in
set_option maxHeartbeats 16000000 in
theorem walk_no (s r : Nat → Nat) (l m : Nat) (born : Int) (A5 : Option Addr) (n5 c5 : Nat) (A6 : Option Addr) (n6 c6 : Nat) (PA PB : List Value) (hpa : PA.length = 72) (hpb : PB.length = 72) (h1a : PA.toArray.all (·.oneCell') = true) (h1b : PB.toArray.all (·.oneCell') = true)  (w : World) 
    (hE : ∀ w, Calls Try.prog 5 #[.agg (byteCells s 32).toArray, .agg (byteCells r 32).toArray, .int .u32 (l : Nat), .int .u32 (m : Nat), .int .i64 born] w fun e w' => e = .returned (.tuple #[.agg PA.toArray, .agg PB.toArray, .bool false]) ∧ Below w.heap.size w w') :
    Calls Try.prog 3 #[.agg (byteCells s 32).toArray, .agg (byteCells r 32).toArray, .int .u32 (l : Nat), .int .u32 (m : Nat), .int .i64 born, .slice A5 n5 c5, .slice A6 n6 c6] w fun e w' => e = .returned (.bool true) ∧ Below w.heap.size w w' := by
  have HE := Lib.hid hE
  have HAL := Lib.hid (fun w => Pr.alive_any w)
  have HPA := Lib.hid hpa
  have HPB := Lib.hid hpb
  have H1A := Lib.hid h1a
  have H1B := Lib.hid h1b
  obtain ⟨CA, hCA⟩ : ∃ C, byteCells s 32 = C := ⟨_, rfl⟩
  obtain ⟨CB, hCB⟩ : ∃ C, byteCells r 32 = C := ⟨_, rfl⟩
  have HCA := Lib.hid (show CA.length = 32 by rw [← hCA, byteCells_length])
  have HCB := Lib.hid (show CB.length = 32 by rw [← hCB, byteCells_length])
  rw [hCA, hCB] at HE ⊢
  obtain ⟨M, hM⟩ : ∃ M, pairL noP = M := ⟨_, rfl⟩
  have HMS := Lib.hid (show M.length = 72 by rw [← hM]; exact pairL_length _)
  have HZ := Lib.hid (show ∀ w, (zeroValue 35).run Try.prog w = .ok (.agg M.toArray) w from fun w => by rw [← hM]; exact zero_pair w)
  clear hCA hCB hM hE hpa hpb h1a h1b
  have hz := HZ.out
  go_enter Try.func3, Try.ntmps3
  go_upto_region 1 with fail
  have L0 : Lay w w.heap.size [] w := ⟨Below.refl _ _, Nat.le_refl _, fun _ h => by cases h⟩
  refine cut_world (fun X => Lay w w.heap.size [(w.heap.size + 1, 23, CB), (w.heap.size, 23, CA)] X) (by have h2 := (L0.new 23 CA).new 23 CB; simpa using h2) ?_
  intro W1 hW
  clear L0
  have HW := Lib.hid hW
  clear hW
  go_upto_region 2 with (first
    | (refine Poly.wpList_load_row_if rfl 23 (.tmp 7) rfl w.heap.size rfl 23 CA _ (HW.out.2.2 (w.heap.size, 23, CA) (by simp)) rfl rfl (by rw [HCA.out]; kernel_rfl) ?_)
    | (refine Poly.wpList_load_row_if rfl 23 (.tmp 8) rfl (w.heap.size + 1) rfl 23 CB _ (HW.out.2.2 (w.heap.size + 1, 23, CB) (by simp)) rfl rfl (by rw [HCB.out]; kernel_rfl) ?_)
    | (go_at_call 5; refine (HE.out _).mono ?_; rintro e w1 ⟨rfl, hb⟩; replace HW := Lib.hid (HW.out.below hb); clear hb)
    | (refine wpList_store_row rfl 35 (.tmp 15) (.tmp 36) rfl w1.heap.size PA.toArray rfl rfl 35 _ ((Whole.new _ _ _).alloc _) (by rw [List.size_toArray, HPA.out]; kernel_rfl) (by simp [HPA.out, HMS.out]) H1A.out ?_)
    | (refine wpList_store_row rfl 35 (.tmp 16) (.tmp 37) rfl (w1.heap.size + 1) PB.toArray rfl rfl 35 _ (Whole.farRow (whole_new _ _ (by simp)) (by omega) _) (by rw [List.size_toArray, HPB.out]; kernel_rfl) (by simp [HPB.out, HMS.out]) H1B.out ?_))
  clear hz
  have HKB := Lib.hid HW.out.1
  have HGE := Lib.hid (show w.heap.size ≤ w1.heap.size from HW.out.2.1)
  have L0 : Lay w1 w1.heap.size [] w1 := ⟨Below.refl _ _, Nat.le_refl _, fun _ h => by cases h⟩
  have L1 := two_new L0 35 M
  have L2 := (L1.perm (cs := [(w1.heap.size, 35, M), (w1.heap.size + 1, 35, M)]) (by simp)).set (Nat.le_refl _) (by simp) PA
  have L3 := (L2.perm (cs := [(w1.heap.size + 1, 35, M), (w1.heap.size, 35, PA)]) (by simp)).set (Nat.le_succ _) (by simp) PB
  refine cut_world (fun X => Whole X w1.heap.size 35 PA.toArray ∧ Whole X (w1.heap.size + 1) 35 PB.toArray ∧ Below w.heap.size w X) ⟨L3.2.2 (w1.heap.size, 35, PA) (by simp), L3.2.2 (w1.heap.size + 1, 35, PB) (by simp), HKB.out.trans (L3.1.mono HGE.out)⟩ ?_
  rintro W2 ⟨k1, k2, kb⟩
  clear L0 L1 L2 L3 HW HKB
  generalize w1.heap.size = G at k1 k2 HGE ⊢
  have K1 := Lib.hid k1
  have K2 := Lib.hid k2
  have KB := Lib.hid kb
  clear k1 k2 kb
  go_wp2_with fail
  refine (HAL.out _).mono ?_
  rintro e w9 ⟨rfl, hb⟩
  have HB9 := Lib.hid (below_trans KB.out hb)
  clear hb
  go_wp2_with fail
  go_ret
  exact ⟨rfl, HB9.out⟩

set_option maxRecDepth 100000 in
set_option maxHeartbeats 16000000 in
theorem walk_big (s r : Nat → Nat) (l m : Nat) (born : Int) (A5 : Option Addr) (n5 c5 : Nat) (A6 : Option Addr) (n6 c6 : Nat) (PA PB : List Value) (hpa : PA.length = 72) (hpb : PB.length = 72) (h1a : PA.toArray.all (·.oneCell') = true) (h1b : PB.toArray.all (·.oneCell') = true) (hn : 20 < n5) (w : World) 
    (hE : ∀ w, Calls Try.prog 5 #[.agg (byteCells s 32).toArray, .agg (byteCells r 32).toArray, .int .u32 (l : Nat), .int .u32 (m : Nat), .int .i64 born] w fun e w' => e = .returned (.tuple #[.agg PA.toArray, .agg PB.toArray, .bool true]) ∧ Below w.heap.size w w') :
    Calls Try.prog 3 #[.agg (byteCells s 32).toArray, .agg (byteCells r 32).toArray, .int .u32 (l : Nat), .int .u32 (m : Nat), .int .i64 born, .slice A5 n5 c5, .slice A6 n6 c6] w fun e w' => e = .returned (.bool true) ∧ Below w.heap.size w w' := by
  have HE := Lib.hid hE
  have HAL := Lib.hid (fun w => Pr.alive_any w)
  have HPA := Lib.hid hpa
  have HPB := Lib.hid hpb
  have H1A := Lib.hid h1a
  have H1B := Lib.hid h1b
  have hd : decide ((20 : Int) < (n5 : Int)) = true := decide_eq_true (by omega)
  clear hn
  obtain ⟨CA, hCA⟩ : ∃ C, byteCells s 32 = C := ⟨_, rfl⟩
  obtain ⟨CB, hCB⟩ : ∃ C, byteCells r 32 = C := ⟨_, rfl⟩
  have HCA := Lib.hid (show CA.length = 32 by rw [← hCA, byteCells_length])
  have HCB := Lib.hid (show CB.length = 32 by rw [← hCB, byteCells_length])
  rw [hCA, hCB] at HE ⊢
  obtain ⟨M, hM⟩ : ∃ M, pairL noP = M := ⟨_, rfl⟩
  have HMS := Lib.hid (show M.length = 72 by rw [← hM]; exact pairL_length _)
  have HZ := Lib.hid (show ∀ w, (zeroValue 35).run Try.prog w = .ok (.agg M.toArray) w from fun w => by rw [← hM]; exact zero_pair w)
  clear hCA hCB hM hE hpa hpb h1a h1b
  have hz := HZ.out
  go_enter Try.func3, Try.ntmps3
  go_upto_region 1 with fail
  have L0 : Lay w w.heap.size [] w := ⟨Below.refl _ _, Nat.le_refl _, fun _ h => by cases h⟩
  refine cut_world (fun X => Lay w w.heap.size [(w.heap.size + 1, 23, CB), (w.heap.size, 23, CA)] X) (by have h2 := (L0.new 23 CA).new 23 CB; simpa using h2) ?_
  intro W1 hW
  clear L0
  have HW := Lib.hid hW
  clear hW
  go_upto_region 2 with (first
    | (refine Poly.wpList_load_row_if rfl 23 (.tmp 7) rfl w.heap.size rfl 23 CA _ (HW.out.2.2 (w.heap.size, 23, CA) (by simp)) rfl rfl (by rw [HCA.out]; kernel_rfl) ?_)
    | (refine Poly.wpList_load_row_if rfl 23 (.tmp 8) rfl (w.heap.size + 1) rfl 23 CB _ (HW.out.2.2 (w.heap.size + 1, 23, CB) (by simp)) rfl rfl (by rw [HCB.out]; kernel_rfl) ?_)
    | (go_at_call 5; refine (HE.out _).mono ?_; rintro e w1 ⟨rfl, hb⟩; replace HW := Lib.hid (HW.out.below hb); clear hb)
    | (refine wpList_store_row rfl 35 (.tmp 15) (.tmp 36) rfl w1.heap.size PA.toArray rfl rfl 35 _ ((Whole.new _ _ _).alloc _) (by rw [List.size_toArray, HPA.out]; kernel_rfl) (by simp [HPA.out, HMS.out]) H1A.out ?_)
    | (refine wpList_store_row rfl 35 (.tmp 16) (.tmp 37) rfl (w1.heap.size + 1) PB.toArray rfl rfl 35 _ (Whole.farRow (whole_new _ _ (by simp)) (by omega) _) (by rw [List.size_toArray, HPB.out]; kernel_rfl) (by simp [HPB.out, HMS.out]) H1B.out ?_))
  clear hz
  have HKB := Lib.hid HW.out.1
  have HGE := Lib.hid (show w.heap.size ≤ w1.heap.size from HW.out.2.1)
  have L0 : Lay w1 w1.heap.size [] w1 := ⟨Below.refl _ _, Nat.le_refl _, fun _ h => by cases h⟩
  have L1 := two_new L0 35 M
  have L2 := (L1.perm (cs := [(w1.heap.size, 35, M), (w1.heap.size + 1, 35, M)]) (by simp)).set (Nat.le_refl _) (by simp) PA
  have L3 := (L2.perm (cs := [(w1.heap.size + 1, 35, M), (w1.heap.size, 35, PA)]) (by simp)).set (Nat.le_succ _) (by simp) PB
  refine cut_world (fun X => Whole X w1.heap.size 35 PA.toArray ∧ Whole X (w1.heap.size + 1) 35 PB.toArray ∧ Below w.heap.size w X) ⟨L3.2.2 (w1.heap.size, 35, PA) (by simp), L3.2.2 (w1.heap.size + 1, 35, PB) (by simp), HKB.out.trans (L3.1.mono HGE.out)⟩ ?_
  rintro W2 ⟨k1, k2, kb⟩
  clear L0 L1 L2 L3 HW HKB
  generalize w1.heap.size = G at k1 k2 HGE ⊢
  have K1 := Lib.hid k1
  have K2 := Lib.hid k2
  have KB := Lib.hid kb
  clear k1 k2 kb
  go_wp2_with fail
  refine (HAL.out _).mono ?_
  rintro e w9 ⟨rfl, hb⟩
  have HB9 := Lib.hid (below_trans KB.out hb)
  clear hb
  go_wp2_with fail
  go_ret
  exact ⟨rfl, HB9.out⟩

set_option maxRecDepth 100000 in
set_option maxHeartbeats 16000000 in
theorem walk_main (s r : Nat → Nat) (l m : Nat) (born : Int) (A5 : Option Addr) (n5 c5 : Nat) (A6 : Option Addr) (n6 c6 : Nat) (PA PB : List Value) (hpa : PA.length = 72) (hpb : PB.length = 72) (h1a : PA.toArray.all (·.oneCell') = true) (h1b : PB.toArray.all (·.oneCell') = true) (hPA : PA = pairL (Pr.newP s r l m true born)) (hPB : PB = pairL (Pr.newP r s m l false born)) (hs : ∀ i, s i < 256) (hr : ∀ i, r i < 256) (hl : l < 4294967296 ∧ m < 4294967296) (h0 : 0 ≤ born) (h1 : born ≤ 1099511427776) (hn : n5 ≤ 20) (f6 : Nat → Nat) (hf6 : ∀ i, f6 i < 256) (Ax : Nat → Option Addr) (Nx Cx : Nat → Nat) (Fx : Nat → Nat → Nat) (w : World) (hI : Arr.IsSlices w A5 n5 c5 Ax Nx Cx Fx) (h6 : Rd w A6 n6 f6)
    (hE : ∀ w, Calls Try.prog 5 #[.agg (byteCells s 32).toArray, .agg (byteCells r 32).toArray, .int .u32 (l : Nat), .int .u32 (m : Nat), .int .i64 born] w fun e w' => e = .returned (.tuple #[.agg PA.toArray, .agg PB.toArray, .bool true]) ∧ Below w.heap.size w w') :
    Calls Try.prog 3 #[.agg (byteCells s 32).toArray, .agg (byteCells r 32).toArray, .int .u32 (l : Nat), .int .u32 (m : Nat), .int .i64 born, .slice A5 n5 c5, .slice A6 n6 c6] w fun e w' => e = .returned (.bool true) ∧ Below w.heap.size w w' := by
  have HE := Lib.hid hE
  have HAL := Lib.hid (fun w => Pr.alive_any w)
  have HPA := Lib.hid hpa
  have HPB := Lib.hid hpb
  have H1A := Lib.hid h1a
  have H1B := Lib.hid h1b
  have HPAE := Lib.hid hPA
  have HPBE := Lib.hid hPB
  have HSB := Lib.hid hs
  have HRB := Lib.hid hr
  have HLM := Lib.hid hl
  have HF6 := Lib.hid hf6
  have HI := Lib.hid hI
  have H6 := Lib.hid h6
  clear hPA hPB hs hr hl hf6 hI h6
  obtain ⟨N, hN⟩ : ∃ N, dataL 0 0 (.slice none 0 0) = N := ⟨_, rfl⟩
  have HNS := Lib.hid (show N.length = 3 by rw [← hN]; rfl)
  have HZD := Lib.hid (show ∀ w, (zeroValue 41).run Try.prog w = .ok (.agg N.toArray) w from fun w => by rw [← hN]; exact zero_data w)
  clear hN
  obtain ⟨CA, hCA⟩ : ∃ C, byteCells s 32 = C := ⟨_, rfl⟩
  obtain ⟨CB, hCB⟩ : ∃ C, byteCells r 32 = C := ⟨_, rfl⟩
  have HCA := Lib.hid (show CA.length = 32 by rw [← hCA, byteCells_length])
  have HCB := Lib.hid (show CB.length = 32 by rw [← hCB, byteCells_length])
  rw [hCA, hCB] at HE ⊢
  obtain ⟨M, hM⟩ : ∃ M, pairL noP = M := ⟨_, rfl⟩
  have HMS := Lib.hid (show M.length = 72 by rw [← hM]; exact pairL_length _)
  have HZ := Lib.hid (show ∀ w, (zeroValue 35).run Try.prog w = .ok (.agg M.toArray) w from fun w => by rw [← hM]; exact zero_pair w)
  clear hCA hCB hM hE hpa hpb h1a h1b
  have hz := HZ.out
  go_enter Try.func3, Try.ntmps3
  go_upto_region 1 with fail
  have L0 : Lay w w.heap.size [] w := ⟨Below.refl _ _, Nat.le_refl _, fun _ h => by cases h⟩
  refine cut_world (fun X => Lay w w.heap.size [(w.heap.size + 1, 23, CB), (w.heap.size, 23, CA)] X) (by have h2 := (L0.new 23 CA).new 23 CB; simpa using h2) ?_
  intro W1 hW
  clear L0
  have HW := Lib.hid hW
  clear hW
  go_upto_region 2 with (first
    | (refine Poly.wpList_load_row_if rfl 23 (.tmp 7) rfl w.heap.size rfl 23 CA _ (HW.out.2.2 (w.heap.size, 23, CA) (by simp)) rfl rfl (by rw [HCA.out]; kernel_rfl) ?_)
    | (refine Poly.wpList_load_row_if rfl 23 (.tmp 8) rfl (w.heap.size + 1) rfl 23 CB _ (HW.out.2.2 (w.heap.size + 1, 23, CB) (by simp)) rfl rfl (by rw [HCB.out]; kernel_rfl) ?_)
    | (go_at_call 5; refine (HE.out _).mono ?_; rintro e w1 ⟨rfl, hb⟩; replace HW := Lib.hid (HW.out.below hb); clear hb)
    | (refine wpList_store_row rfl 35 (.tmp 15) (.tmp 36) rfl w1.heap.size PA.toArray rfl rfl 35 _ ((Whole.new _ _ _).alloc _) (by rw [List.size_toArray, HPA.out]; kernel_rfl) (by simp [HPA.out, HMS.out]) H1A.out ?_)
    | (refine wpList_store_row rfl 35 (.tmp 16) (.tmp 37) rfl (w1.heap.size + 1) PB.toArray rfl rfl 35 _ (Whole.farRow (whole_new _ _ (by simp)) (by omega) _) (by rw [List.size_toArray, HPB.out]; kernel_rfl) (by simp [HPB.out, HMS.out]) H1B.out ?_))
  clear hz
  have HKB := Lib.hid HW.out.1
  have HGE := Lib.hid (show w.heap.size ≤ w1.heap.size from HW.out.2.1)
  have L0 : Lay w1 w1.heap.size [] w1 := ⟨Below.refl _ _, Nat.le_refl _, fun _ h => by cases h⟩
  have L1 := two_new L0 35 M
  have L2 := (L1.perm (cs := [(w1.heap.size, 35, M), (w1.heap.size + 1, 35, M)]) (by simp)).set (Nat.le_refl _) (by simp) PA
  have L3 := (L2.perm (cs := [(w1.heap.size + 1, 35, M), (w1.heap.size, 35, PA)]) (by simp)).set (Nat.le_succ _) (by simp) PB
  refine cut_world (fun X => Whole X w1.heap.size 35 PA.toArray ∧ Whole X (w1.heap.size + 1) 35 PB.toArray ∧ Below w.heap.size w X) ⟨L3.2.2 (w1.heap.size, 35, PA) (by simp), L3.2.2 (w1.heap.size + 1, 35, PB) (by simp), HKB.out.trans (L3.1.mono HGE.out)⟩ ?_
  rintro W2 ⟨k1, k2, kb⟩
  clear L0 L1 L2 L3 HW HKB
  generalize w1.heap.size = G at k1 k2 HGE ⊢
  have K1 := Lib.hid k1
  have K2 := Lib.hid k2
  have KB := Lib.hid kb
  clear k1 k2 kb
  have hd : decide ((20 : Int) < (n5 : Int)) = false := decide_eq_false (by omega)
  go_wp2_with fail
  clear hd
  have HT0 := Lib.hid (show TW w s m Nx Fx 0 none 0 (fun _ => .bool true) W2 from ⟨World.ownsRow_nil _ _ _ _, fun j hj => by omega, KB.out⟩)
  go_loopw [18, 19] (fun ls i X => ∃ (k : Nat) (AL : Option Addr) (cl : Nat) (D : Nat → Value), k ≤ n5 ∧ ls = .slice AL k cl ∧ i = .int .i64 (k : Nat) ∧ (∀ j, j < k → Nx j % 16 = 0 ∧ Nx j ≤ 320) ∧ TW w s m Nx Fx k AL cl D X ∧ Whole X G 35 (pairL { Pr.newP s r l m true born with sent := k }).toArray ∧ Whole X (G + 1) 35 PB.toArray) (fun _ i _ => 20 - (intOf i).toNat)
  case atStart => exact ⟨0, none, 0, _, Nat.zero_le _, rfl, rfl, fun j hj => by omega, HT0.out, by rw [HPAE.out] at K1; exact K1.out, K2.out⟩
  case round =>
    clear K1 K2 KB HT0
    obtain ⟨k, AL, cl, D, hk, rfl, rfl, hok, htw, hga, hgb⟩ := hrel
    have HTW := Lib.hid htw
    have HGA := Lib.hid hga
    have HGB := Lib.hid hgb
    clear htw hga hgb
    have HO := Lib.hid (show ∀ j, j < k → Nx j % 16 = 0 ∧ Nx j ≤ 320 from hok)
    clear hok
    by_cases hlt : k < n5
    · obtain ⟨bb, off, rfl, hbl, hx⟩ := HI.out.2.2.2.2.elim (fun h0 => absurd h0 (by omega)) id
      have hc5 := hx k hlt
      have hrd := HI.out.2.2.2.1 k hlt
      have HXC := Lib.hid (show ∀ Y, Below wr.heap.size wr Y → Y.cell? ⟨bb, off + k, none⟩ = some (.slice (Ax k) (Nx k) (Cx k)) from fun Y hY => by
        rw [← hc5]
        unfold World.cell?
        rw [(below_trans HTW.out.bel hY).block bb hbl])
      have HRD := Lib.hid (show ∀ Y, Below wr.heap.size wr Y → Rd Y (Ax k) (Nx k) (Fx k) from fun Y hY => hrd.1.below (below_trans HTW.out.bel hY) (Nat.le_refl _))
      have HFX := Lib.hid (HI.out.2.2.1 k)
      have hcell := HXC.out wr (Below.refl _ _)
      clear hx hc5 hrd hbl
      by_cases h16 : Nx k % 16 = 0 ∧ Nx k ≤ 320
      · have HN := Lib.hid h16
        have hsE : sE { Pr.newP s r l m true born with sent := k } (born + k) (Nx k) = 0 := by
          unfold sE
          rw [show oldB { Pr.newP s r l m true born with sent := k } (born + k) = false from old_in s r l m true born k k ⟨0, 0, 0⟩ h0 h1 (by omega) (by omega), if_neg (by decide), if_neg (by unfold spent; show ¬ _ ≤ k; omega), if_neg (by omega)]
        have HP := Lib.hid (show Pr.PS.ok { Pr.newP s r l m true born with sent := k } from ⟨HSB.out, HRB.out, HLM.out.1, HLM.out.2, by show -9223372036854775808 ≤ born; omega, by show born ≤ _; omega, by show k < _; omega, by refine ⟨?_, ?_, ?_⟩ <;> (show (0 : Nat) < _; omega)⟩)
        have HSE := Lib.hid (show ∀ V, Below wr.heap.size wr V → Calls Try.prog 7 #[.agg (pairL { Pr.newP s r l m true born with sent := k }).toArray, .slice (Ax k) (Nx k) (Cx k), .int .i64 (born + k)] V fun e w' => ∃ x, e = .returned (.tuple #[.agg (pairL { Pr.newP s r l m true born with sent := k + 1 }).toArray, .agg (dataL m k x).toArray, .int .i64 0]) ∧ Box w.heap.size s Nx Fx k x w' ∧ Below V.heap.size V w' from
          fun V hV => (Pr.seal_yes _ HP.out (born + k) (by omega) (by omega) (Ax k) (Nx k) (Cx k) (Fx k) HFX.out V (HRD.out V hV) hsE).mono fun e w' ⟨A', c', he, ho, hb⟩ => ⟨_, he, ⟨A', c', rfl, ho.more (Nat.le_trans HTW.out.bel.size hV.size)⟩, hb⟩)
        clear hsE
        have h16a : ((Nx k : Int) % 16 != 0) = false := by simp; omega
        have h16b : decide ((320 : Int) < (Nx k : Int)) = false := decide_eq_false (by omega)
        have hadd1 : IntKind.i64.wrap (born + (k : Int)) = born + k := by rw [IntKind.wrap_i64]; omega
        have hadd2 : wrap64 (born + (k : Int)) = born + k := by unfold wrap64; omega
        have hkw : IntKind.i64.wrap ((k : Int) + 1) = (k : Int) + 1 := by rw [IntKind.wrap_i64]; omega
        clear h16
        have HLS := Lib.hid (pairL_length { Pr.newP s r l m true born with sent := k })
        have HLS' := Lib.hid (pairL_length { Pr.newP s r l m true born with sent := k + 1 })
        have HL1' := Lib.hid (pair_one { Pr.newP s r l m true born with sent := k + 1 })
        have HDS0 := Lib.hid (show ∀ v, (dataL m k v).length = 3 from fun _ => rfl)
        have HD10 := Lib.hid (show ∀ A n c, (dataL m k (.slice A n c)).toArray.all (·.oneCell') = true from fun _ _ _ => data_one _ _ _ _ _)
        obtain ⟨D1, hD1⟩ : ∃ D : Value → List Value, dataL m k = D := ⟨_, rfl⟩
        obtain ⟨L, hL⟩ : ∃ L, pairL { Pr.newP s r l m true born with sent := k } = L := ⟨_, rfl⟩
        obtain ⟨L', hL'⟩ : ∃ L, pairL { Pr.newP s r l m true born with sent := k + 1 } = L := ⟨_, rfl⟩
        obtain ⟨Ak, hAk⟩ : ∃ A, Ax k = A := ⟨_, rfl⟩
        obtain ⟨ck, hck⟩ : ∃ c, Cx k = c := ⟨_, rfl⟩
        obtain ⟨q, hq⟩ : ∃ q, Nx k = q := ⟨_, rfl⟩
        have HL' := Lib.hid hL'
        have HDD := Lib.hid hD1
        rw [hAk, hck, hq] at HXC HSE hcell
        rw [hq] at h16a h16b
        rw [hL, hL', hD1] at HSE
        rw [hL] at HLS HGA
        rw [hL'] at HLS' HL1'
        rw [hD1] at HDS0 HD10
        clear hD1 hL hL' hAk hck hq
        go_upto_region 10 with fail
        refine region_start (fun Y => Below wr.heap.size wr Y) (by kernel_rfl) (below_drewN (Below.refl _ _) 1) ?_
        intro V0 hS
        refine take 0 (.agg L.toArray) rfl (by kernel_rfl) (by kernel_rfl) (by kernel_rfl) (fun _ _ _ h => h) (by rfl) hS (fun V hV => run_mid_in 35 (.tmp 15) rfl G 0 rfl L _ (whole_range (HGA.out.below hV HGA.out.lt)) rfl rfl (by rw [HLS.out]; kernel_rfl)) ?_
        try simp only [Act.put, List.setIfInBounds_toArray, List.set_cons_zero, List.set_cons_succ]
        refine take 1 _ rfl (by kernel_rfl) (by kernel_rfl) (by kernel_rfl) (fun _ _ _ h => h) (by rfl) hS (by intro w _; go_simp; with_reducible rfl) ?_
        try simp only [Act.put, List.setIfInBounds_toArray, List.set_cons_zero, List.set_cons_succ]
        refine take 2 _ rfl (by kernel_rfl) (by kernel_rfl) (by kernel_rfl) (fun _ _ _ h => h) (by rfl) hS (by intro w _; go_simp; with_reducible rfl) ?_
        try simp only [Act.put, List.setIfInBounds_toArray, List.set_cons_zero, List.set_cons_succ]
        refine take 3 _ rfl (by kernel_rfl) (by kernel_rfl) (by kernel_rfl) (fun _ _ _ h => h) (by rfl) hS (by intro w _; go_simp; with_reducible rfl) ?_
        try simp only [Act.put, List.setIfInBounds_toArray, List.set_cons_zero, List.set_cons_succ]
        refine take 4 _ rfl (by kernel_rfl) (by kernel_rfl) (by kernel_rfl) (fun _ _ _ h => h) (by rfl) hS (by intro w hw; have hcl := HXC.out w hw; go_simp; with_reducible rfl) ?_
        try simp only [Act.put, List.setIfInBounds_toArray, List.set_cons_zero, List.set_cons_succ]
        refine take 5 _ rfl (by kernel_rfl) (by kernel_rfl) (by kernel_rfl) (fun _ _ _ h => h) (by rfl) hS (by intro w _; go_simp; with_reducible rfl) ?_
        try simp only [Act.put, List.setIfInBounds_toArray, List.set_cons_zero, List.set_cons_succ]
        refine take 6 _ rfl (by kernel_rfl) (by kernel_rfl) (by kernel_rfl) (fun _ _ _ h => h) (by rfl) hS (by intro w _; go_simp; with_reducible rfl) ?_
        try simp only [Act.put, List.setIfInBounds_toArray, List.set_cons_zero, List.set_cons_succ]
        refine take 7 _ rfl (by kernel_rfl) (by kernel_rfl) (by kernel_rfl) (fun _ _ _ h => h) (by rfl) hS (by intro w _; go_simp; with_reducible rfl) ?_
        try simp only [Act.put, List.setIfInBounds_toArray, List.set_cons_zero, List.set_cons_succ]
        obtain ⟨Φ, hΦ⟩ : ∃ Φ : Nat → Value → World → Prop, Φ = fun i => sealPhi (0) L'.toArray D1 0 (fun x w' => Box w.heap.size s Nx Fx k x w') M N wr ((fun i => match i with | 8 => 1 | 9 => 2 | 10 => 3 | 11 => 4 | 12 => 5 | 13 => 6 | _ => 7) i) := ⟨_, rfl⟩
        have f1 : ∀ v0 w0, Φ 8 v0 w0 ↔ sealPhi (0) L'.toArray D1 0 (fun x w' => Box w.heap.size s Nx Fx k x w') M N wr 1 v0 w0 := fun v0 w0 => by rw [hΦ]; exact Iff.rfl
        have f2 : ∀ v0 w0, Φ 9 v0 w0 ↔ sealPhi (0) L'.toArray D1 0 (fun x w' => Box w.heap.size s Nx Fx k x w') M N wr 2 v0 w0 := fun v0 w0 => by rw [hΦ]; exact Iff.rfl
        have f3 : ∀ v0 w0, Φ 10 v0 w0 ↔ sealPhi (0) L'.toArray D1 0 (fun x w' => Box w.heap.size s Nx Fx k x w') M N wr 3 v0 w0 := fun v0 w0 => by rw [hΦ]; exact Iff.rfl
        have f4 : ∀ v0 w0, Φ 11 v0 w0 ↔ sealPhi (0) L'.toArray D1 0 (fun x w' => Box w.heap.size s Nx Fx k x w') M N wr 4 v0 w0 := fun v0 w0 => by rw [hΦ]; exact Iff.rfl
        have f5 : ∀ v0 w0, Φ 12 v0 w0 ↔ sealPhi (0) L'.toArray D1 0 (fun x w' => Box w.heap.size s Nx Fx k x w') M N wr 5 v0 w0 := fun v0 w0 => by rw [hΦ]; exact Iff.rfl
        have f6 : ∀ v0 w0, Φ 13 v0 w0 ↔ sealPhi (0) L'.toArray D1 0 (fun x w' => Box w.heap.size s Nx Fx k x w') M N wr 6 v0 w0 := fun v0 w0 => by rw [hΦ]; exact Iff.rfl
        have f7 : ∀ v0 w0, Φ 14 v0 w0 ↔ sealPhi (0) L'.toArray D1 0 (fun x w' => Box w.heap.size s Nx Fx k x w') M N wr 7 v0 w0 := fun v0 w0 => by rw [hΦ]; exact Iff.rfl
        have hst : ∀ i v w w', Φ i v w → Below w.heap.size w w' → Φ i v w' := fun i v w w' h hb => by rw [hΦ] at h ⊢; exact sealPhi_stays (fun _ _ _ h hb => h.kp (Kp.below hb)) h hb
        clear hΦ
        refine FloatD.floatL (W := wr) [(8, 78), (9, 69), (10, 79), (11, 80), (12, 81), (13, 20), (14, 21)] [8, 9, 10, 11, 12, 13, 14] [8, 9, 10, 13, 14] [11, 12] Φ (fun i => i == 13 || i == 14) 3 rfl (by rfl) (by rfl) (by rfl) (by kernel_rfl) (by kernel_rfl) (by kernel_rfl) (by kernel_rfl) (by kernel_rfl) (by kernel_rfl) (fun ν => rfl) hS (fun _ h => h) (fun _ _ _ _ _ h => h) hst ?_ ?_ ?_
        · refine ⟨⟨_, _, rfl, ?_⟩, ⟨_, _, rfl, ?_⟩, ⟨_, _, rfl, ?_⟩, ⟨_, _, rfl, ?_⟩, ⟨_, _, rfl, ?_⟩, trivial⟩
          · intro ν V hV hd
            simp only [FloatD.puts, Act.put, List.setIfInBounds_toArray, List.set_cons_zero, List.set_cons_succ]
            refine FloatD.step_call (f := 7) (args := #[.agg L.toArray, .slice Ak q ck, .int .i64 (born + k)]) ?_ ?_ rfl
            · go_simp
              try with_reducible rfl
            refine (HSE.out V hV).mono ?_
            rintro e w' ⟨x, rfl, hx, hb⟩
            exact ⟨_, rfl, (f1 _ _).mpr ⟨_, rfl, hx⟩, hb⟩
          · intro ν V hV hd
            obtain ⟨x, ex, hx⟩ := (f1 _ _).mp (hd 8 (by simp) (by kernel_rfl))
            simp only [FloatD.puts, Act.put, List.setIfInBounds_toArray, List.set_cons_zero, List.set_cons_succ]
            rw [ex]
            exact FloatD.step_value (by go_simp; try with_reducible rfl) ((f2 _ _).mpr ⟨x, rfl, hx⟩) rfl
          · intro ν V hV hd
            obtain ⟨x, ex, hx⟩ := (f2 _ _).mp (hd 9 (by simp) (by kernel_rfl))
            simp only [FloatD.puts, Act.put, List.setIfInBounds_toArray, List.set_cons_zero, List.set_cons_succ]
            rw [ex]
            exact FloatD.step_value (v := .agg L'.toArray) (by go_simp; try with_reducible rfl) ((f3 _ _).mpr rfl) rfl
          · intro ν V hV hd
            simp only [FloatD.puts, Act.put, List.setIfInBounds_toArray, List.set_cons_zero, List.set_cons_succ]
            refine FloatD.step_new (T := 35) (zs := M.toArray) ?_ ((f6 _ _).mpr ⟨_, rfl, hV.size, Whole.new _ _ _⟩)
            have hz := HZ.out
            go_simp
            try rfl
          · intro ν V hV hd
            simp only [FloatD.puts, Act.put, List.setIfInBounds_toArray, List.set_cons_zero, List.set_cons_succ]
            refine FloatD.step_new (T := 41) (zs := N.toArray) ?_ ((f7 _ _).mpr ⟨_, rfl, hV.size, Whole.new _ _ _⟩)
            have hz := HZD.out
            go_simp
            try rfl
        · refine ⟨⟨rfl, _, _, rfl, ?_⟩, ⟨rfl, _, _, rfl, ?_⟩, trivial⟩
          · intro ν V hV hd
            obtain ⟨x, ex, hx⟩ := (f2 _ _).mp (hd 9 (by simp) (by kernel_rfl))
            refine ⟨.agg (D1 x).toArray, (f4 _ _).mpr ⟨x, rfl, hx⟩, fun V' => ?_⟩
            simp only [FloatD.puts, Act.put, List.setIfInBounds_toArray, List.set_cons_zero, List.set_cons_succ]
            rw [ex]
            go_simp
            try with_reducible rfl
          · intro ν V hV hd
            obtain ⟨x, ex, hx⟩ := (f2 _ _).mp (hd 9 (by simp) (by kernel_rfl))
            refine ⟨.int .i64 0, (f5 _ _).mpr rfl, fun V' => ?_⟩
            simp only [FloatD.puts, Act.put, List.setIfInBounds_toArray, List.set_cons_zero, List.set_cons_succ]
            rw [ex]
            go_simp
            try with_reducible rfl
        intro ν V3 hS ⟨h1, h2, h3, h4, h5, h6, h7, _⟩ ha
        obtain ⟨x1, ex1, -⟩ := (f1 _ _).mp h1
        obtain ⟨x2, ex2, -⟩ := (f2 _ _).mp h2
        have e3 := (f3 _ _).mp h3
        obtain ⟨x, e4, hx⟩ := (f4 _ _).mp h4
        have e5 := (f5 _ _).mp h5
        obtain ⟨gp, e6, hgp, hwp⟩ := (f6 _ _).mp h6
        obtain ⟨gd, e7, hgd, hwd⟩ := (f7 _ _).mp h7
        have hne : gp ≠ gd := fun e => ha 13 (by simp) 14 (by simp) (by decide) rfl rfl gp (by rw [e6]; rfl) (by rw [e7, e]; rfl)
        clear ha hst h1 h2 h3 h4 h5 h6 h7 f1 f2 f3 f4 f5 f6 f7
        simp only [FloatD.puts, Act.put, List.setIfInBounds_toArray, List.set_cons_zero, List.set_cons_succ]
        rw [ex1, ex2, e3, e4, e5, e6, e7]
        clear ex1 ex2 e3 e4 e5 e6 e7
        have HBX := Lib.hid hx
        have HS3 := Lib.hid hS
        have HP3 := Lib.hid hwp
        have HD3 := Lib.hid hwd
        obtain ⟨DV, hDV⟩ : ∃ DV, D1 x = DV := ⟨_, rfl⟩
        obtain ⟨xA, xc, hxe, _⟩ := hx
        have HDS := Lib.hid (show DV.length = 3 by rw [← hDV]; exact HDS0.out _)
        have HD1 := Lib.hid (show DV.toArray.all (·.oneCell') = true by rw [← hDV, hxe]; exact HD10.out _ _ _)
        have HDV := Lib.hid hDV
        clear hxe
        rw [hDV]
        clear hDV
        refine alone 15 rfl (by kernel_rfl) (by rfl) ?_
        intro KK hKK
        refine wp_store_row 35 (.tmp 20) (.tmp 79) rfl gp L'.toArray rfl rfl 35 _ hwp (by rw [List.size_toArray, HLS'.out]; kernel_rfl) (by first | rfl | rw [List.size_toArray, List.size_toArray, HLS'.out, HMS.out]) (HL1'.out) ?_
        replace hwd := Whole.farRow hwd hne.symm L'.toArray
        replace hwp := setRow_heap _ _ _ L'.toArray _ _ hwp
        replace hS := below_setRow hS hgp L'.toArray
        refine hKK.out _ _ hS ?_
        clear hKK KK
        try simp only [Act.put]
        refine alone 16 rfl (by kernel_rfl) (by rfl) ?_
        intro KK hKK
        refine wp_store_row 41 (.tmp 21) (.tmp 80) rfl gd DV.toArray rfl rfl 41 _ hwd (by rw [List.size_toArray, HDS.out]; kernel_rfl) (by first | rfl | rw [List.size_toArray, List.size_toArray, HDS.out, HNS.out]) (HD1.out) ?_
        replace hwp := Whole.farRow hwp hne DV.toArray
        replace hwd := setRow_heap _ _ _ DV.toArray _ _ hwd
        replace hS := below_setRow hS hgd DV.toArray
        refine hKK.out _ _ hS ?_
        clear hKK KK
        try simp only [Act.put]
        refine take 17 _ rfl (by kernel_rfl) (by kernel_rfl) (by kernel_rfl) (fun _ _ _ h => h) (by rfl) hS (by intro w _; go_simp; with_reducible rfl) ?_
        try simp only [Act.put, List.setIfInBounds_toArray, List.set_cons_zero, List.set_cons_succ]
        refine region_end (by kernel_rfl) ?_
        have HGP := Lib.hid hwp
        have HGD := Lib.hid hwd
        have HB8 := Lib.hid (HBX.out.kp ((Kp.setRow HP3.out (by decide)).trans (Kp.setRow (Whole.farRow HD3.out hne.symm L'.toArray) (by decide)) : Kp 5 V3 ((V3.setRow gp L'.toArray).setRow gd DV.toArray)))
        have HTW3 := Lib.hid (HTW.out.below hS)
        have HGA3 := Lib.hid (HGA.out.below hS HGA.out.lt)
        have HGB3 := Lib.hid (HGB.out.below hS HGB.out.lt)
        have HGN := Lib.hid (show G + 1 < gp ∧ G + 1 < gd from ⟨Nat.lt_of_lt_of_le HGB.out.lt hgp, Nat.lt_of_lt_of_le HGB.out.lt hgd⟩)
        clear hwp hwd hgp hgd hne hS HTW HGA HGB HBX HS3 HP3 HD3 HSE HXC HRD
        generalize hX3 : (V3.setRow gp L'.toArray).setRow gd DV.toArray = X3 at HGP HGD HB8 HTW3 HGA3 HGB3 ⊢
        clear hX3
        go_upto_region 14 with (first
          | (refine Poly.wpList_load_row_if rfl 35 (.tmp 20) rfl gp rfl 35 L' _ HGP.out rfl rfl (by rw [HLS'.out]; kernel_rfl) ?_)
          | (refine wpList_store_row rfl 35 (.tmp 15) (.tmp 84) rfl G L'.toArray rfl rfl 35 _ HGA3.out (by rw [List.size_toArray, HLS'.out]; kernel_rfl) (by rw [List.size_toArray, List.size_toArray, HLS'.out, HLS.out]) HL1'.out ?_))
        have hgn := HGN.out
        have HK4 := Lib.hid (show ∀ T, 35 ≠ T → Kp T X3 (X3.setRow G L'.toArray) from fun T hT => Kp.setRow HGA3.out hT)
        have HTW4 := Lib.hid (HTW3.out.step (HK4.out _ (by decide)) (HK4.out _ (by decide)) (below_setRow HTW3.out.bel HGE.out L'.toArray))
        have HB9 := Lib.hid (HB8.out.kp (HK4.out _ (by decide)))
        have HGA4 := Lib.hid (show Whole (X3.setRow G L'.toArray) G 35 L'.toArray from setRow_heap _ _ _ _ _ _ HGA3.out)
        have HGB4 := Lib.hid (Whole.farRow HGB3.out (show G + 1 ≠ G by omega) L'.toArray)
        have HGD4 := Lib.hid (Whole.farRow HGD.out (show gd ≠ G by omega) L'.toArray)
        clear HTW3 HB8 HGA3 HGB3 HGD HGP HK4
        generalize X3.setRow G L'.toArray = X4 at HTW4 HB9 HGA4 HGB4 HGD4 ⊢
        have hds := HDS.out
        go_wp2_with (first
          | (at_builtin; rw [fold_whole DV _ (by rw [HDS.out]; rfl)]; refine wpList_pushT DV 3 rfl _ _ 39 41 (.agg (dataL 0 0 (.slice none 0 0)).toArray) 40 Try.underlying39 infoD rfl (by omega) rfl rfl rfl HTW4.out.row HTW4.out.bel.size HDS.out (fun u hu => List.all_eq_true.1 (by have := HD1.out; rwa [List.all_toArray] at this) u hu) (by omega) (by omega) ?_; intro A5' c5' w5 hown5 hb5 hkp5; have HO5 := Lib.hid hown5; have HB5 := Lib.hid hb5; have HK5 := Lib.hid hkp5; clear hown5 hb5 hkp5)
          | (refine Poly.wpList_load_row_if rfl 41 (.tmp 21) rfl gd rfl 41 DV _ HGD4.out rfl rfl (by rw [HDS.out]; kernel_rfl) ?_))
        go_roundw
        case rel =>
          refine ⟨k + 1, A5', c5', fun j => if j = k then x else D j, by omega, rfl, by go_num, fun j hj => ?_, ⟨?_, fun j hj => ?_, HTW4.out.bel.trans HB5.out⟩, ?_, (HK5.out _ (by decide)).whole HGB4.out⟩
          · by_cases hjk : j = k
            · subst hjk; exact HN.out
            · exact HO.out j (by omega)
          · have h := HO5.out
            rw [rowL_succ, rowL_congr m (fun j => if j = k then x else D j) D k (fun j hj => by rw [if_neg (by omega)]), if_pos rfl, HDD.out, HDV.out]
            exact h
          · by_cases hjk : j = k
            · subst hjk
              rw [if_pos rfl]
              exact HB9.out.kp (HK5.out _ (by decide))
            · rw [if_neg hjk]
              exact (HTW4.out.box j (by omega)).kp (HK5.out _ (by decide))
          · rw [HL'.out]
            exact (HK5.out _ (by decide)).whole HGA4.out
        case measure => simp [intOf]; omega
      · by_cases h3 : Nx k % 16 = 0
        · have h4 : decide ((320 : Int) < (Nx k : Int)) = true := decide_eq_true (by omega)
          have h5 : ((Nx k : Int) % 16 != 0) = false := by simp; omega
          clear h3
          clear h16
          go_wp2_with fail
          refine (HAL.out _).mono ?_
          rintro e w9 ⟨rfl, hb⟩
          have HB9 := Lib.hid (below_trans HTW.out.bel hb)
          clear hb
          go_wp2_with fail
          go_ret
          exact ⟨rfl, HB9.out⟩
        · have h5 : ((Nx k : Int) % 16 != 0) = true := by simp; omega
          clear h3
          clear h16
          go_wp2_with fail
          refine (HAL.out _).mono ?_
          rintro e w9 ⟨rfl, hb⟩
          have HB9 := Lib.hid (below_trans HTW.out.bel hb)
          clear hb
          go_wp2_with fail
          go_ret
          exact ⟨rfl, HB9.out⟩
    · obtain rfl : k = n5 := by omega
      clear hlt
      have hzb := zero_bools
      go_wp2_with fail
      clear hzb
      have HT5 := Lib.hid (show L2 w s m Nx Fx k AL cl D G wr.heap.size (pairL { Pr.newP s r l m true born with sent := k }) (Pr.newP r s m l false born) (fun _ => false) ⟨0, 0, 0⟩ [] (wr.alloc (.cells (boolL fun _ => false).toArray 45)) from
        ⟨HTW.out.below (below_alloc (Below.refl _ _) _), HGA.out.alloc _, by have h := HGB.out.alloc (.cells (boolL fun _ => false).toArray 45); rw [HPBE.out] at h; exact h, Whole.new _ _ _, is_nil, fun j => by simp⟩)
      have HC0 := Lib.hid (show G + 1 < wr.heap.size from HGB.out.lt)
      clear HTW HGA HGB
      generalize wr.heap.size = Gc at HT5 HC0 ⊢
      go_loopw [24] (fun i X => ∃ (k2 : Nat) (cm : Nat → Bool) (st : St) (TL : List Nat), k2 ≤ 60 ∧ i = .int .i64 (k2 : Nat) ∧ L2 w s m Nx Fx k AL cl D G Gc (pairL { Pr.newP s r l m true born with sent := k }) (Pr.newP r s m l false born) cm st TL X) (fun i _ => 60 - (intOf i).toNat)
      case atStart => exact ⟨0, _, _, _, Nat.zero_le _, rfl, HT5.out⟩
      case round =>
        clear HT5
        obtain ⟨k2, cm, st, TL, hk2, rfl, h2⟩ := hrel
        have H2 := Lib.hid h2
        clear h2
        by_cases hc : k2 < n6 ∧ k2 < 60 ∧ 0 < k
        · obtain ⟨hc1, hc2, hc3⟩ := hc
          have hc4 : (k2 : Int) < 60 := by omega
          have hc5 : (0 : Int) < (k : Int) := by omega
          have hc6 : ¬ k = 0 := by omega
          obtain ⟨b6, off6, rfl, hb6, hx6⟩ := (H6.out.below H2.out.tw.bel (Nat.le_refl _)).elim (fun h0 => absurd h0 (by omega)) id
          have hcell := hx6 k2 hc1
          clear hx6 hb6
          obtain ⟨v, hv⟩ : ∃ v, f6 k2 = v := ⟨_, rfl⟩
          rw [hv] at hcell
          have hv2 : v < 256 := by rw [← hv]; exact HF6.out k2
          clear hv
          obtain ⟨kk, hkk⟩ : ∃ kk, v % k = kk := ⟨_, rfl⟩
          have hkl : kk < k := by rw [← hkk]; exact Nat.mod_lt _ (by omega)
          have hm1 : (v : Int) % (k : Int) = (kk : Int) := by rw [← hkk]; omega
          have hm2 : (v : Int).tmod (k : Int) = (kk : Int) := by rw [Int.tmod_eq_emod_of_nonneg (by omega)]; exact hm1
          have hvw : IntKind.i64.wrap (v : Int) = (v : Int) := by rw [IntKind.wrap_i64]; omega
          clear hkk
          go_upto_region 20 with fail
          clear hcell hm1 hm2 hvw hc4 hc5 hc6
          obtain ⟨gl, rfl, hgl, hlc, hrow⟩ := row_at H2.out.tw.row hc3
          obtain ⟨Ab, cb, hDk, hown⟩ := H2.out.tw.box kk hkl
          have hq := HO.out kk hkl
          have HFX := Lib.hid (HI.out.2.2.1 kk)
          have hd1 : IntKind.i64.wrap (born + 1000) = born + 1000 := by rw [IntKind.wrap_i64]; omega
          have hd2 : wrap64 (born + 1000) = born + 1000 := by unfold wrap64; omega
          have hk2w : IntKind.i64.wrap ((k2 : Int) + 1) = (k2 : Int) + 1 := by rw [IntKind.wrap_i64]; omega
          have HRG := Lib.hid (show ∀ Y, Below wr.heap.size wr Y → Y.rangeAt gl (kk * 3) (dataL m kk (D kk)) from fun Y hY j x hx => by
            have h := hrow (kk * 3 + j) x (by rw [rowL_get m D k kk j hkl (by have := (List.getElem?_eq_some_iff.1 hx).1; exact this)]; exact hx)
            rw [← h]
            unfold World.cell?
            rw [hY.block gl hgl])
          have HDM := Lib.hid (show (dataL m kk (D kk)).length = 3 from rfl)
          have HBS := Lib.hid (pairL_length { Pr.newP r s m l false born with win := st })
          have HB1 := Lib.hid (pair_one { Pr.newP r s m l false born with win := st })
          have HP := Lib.hid (show Pr.PS.ok { Pr.newP r s m l false born with win := st } from ⟨HRB.out, HSB.out, HLM.out.2, HLM.out.1, by show -9223372036854775808 ≤ born; omega, by show born ≤ _; omega, by show (0 : Nat) < _; omega, H2.out.is.ok⟩)
          have HOLD := Lib.hid (show oldB { Pr.newP r s m l false born with win := st } (born + 1000) = false from old_in r s m l false born 1000 0 st h0 h1 (by omega) (by omega))
          have HGB := Lib.hid H2.out.gb
          have hk20 : kk < 20 := by omega
          have hcell20 : ∀ Y, Below wr.heap.size wr Y → Y.cell? ⟨Gc, kk, none⟩ = some (.bool (cm kk)) := fun Y hY => ((H2.out.below hY).gc.cell kk).trans (boolL_get cm kk hk20)
          have HC20 := Lib.hid hcell20
          clear hrow hgl hlc hcell20 hq
          by_cases hcm : cm kk = true
          · have HOP := Lib.hid (show ∀ V, Calls Try.prog 8 #[.agg (pairL { Pr.newP r s m l false born with win := st }).toArray, .agg (dataL m kk (D kk)).toArray, .int .i64 (born + 1000)] V fun e w' => e = .returned (.tuple #[.agg (pairL { Pr.newP r s m l false born with win := st }).toArray, .slice none 0 0, .int .i64 80]) ∧ Below V.heap.size V w' from
              fun V => by rw [hDk]; exact Pr.open_again { Pr.newP r s m l false born with win := st } HP.out (born + 1000) (by omega) (by omega) kk Ab (Nx kk + 16) (Nx kk + 16) V HOLD.out 80 (check_came H2.out.is ((H2.out.mem kk).2 ⟨hkl, hcm⟩) hk20) (by omega))
            have HEQ := Lib.hid (Pr.pair_eq { Pr.newP r s m l false born with win := st } HP.out)
            rw [hcm] at HC20
            obtain ⟨DM, hDM⟩ : ∃ L, dataL m kk (D kk) = L := ⟨_, rfl⟩
            obtain ⟨LB, hLB⟩ : ∃ L, pairL { Pr.newP r s m l false born with win := st } = L := ⟨_, rfl⟩
            rw [hDM] at HRG HDM HOP
            rw [hLB] at HOP HBS HB1 HGB HEQ
            clear hDM hLB hDk hown hcm
            refine region_start (fun Y => Below wr.heap.size wr Y) (by kernel_rfl) (below_drewN (Below.refl _ _) 1) ?_
            intro V0 hS
            refine take 0 (.agg LB.toArray) rfl (by kernel_rfl) (by kernel_rfl) (by kernel_rfl) (fun _ _ _ h => h) (by rfl) hS (fun V hV => run_mid_in 35 (.tmp 16) rfl (G + 1) 0 rfl LB _ (whole_range (HGB.out.below hV HGB.out.lt)) rfl rfl (by rw [HBS.out]; kernel_rfl)) ?_
            try simp only [Act.put, List.setIfInBounds_toArray, List.set_cons_zero, List.set_cons_succ]
            refine take 1 _ rfl (by kernel_rfl) (by kernel_rfl) (by kernel_rfl) (fun _ _ _ h => h) (by rfl) hS (by intro w _; go_simp; with_reducible rfl) ?_
            try simp only [Act.put, List.setIfInBounds_toArray, List.set_cons_zero, List.set_cons_succ]
            refine take 2 _ rfl (by kernel_rfl) (by kernel_rfl) (by kernel_rfl) (fun _ _ _ h => h) (by rfl) hS (by intro w _; go_simp; with_reducible rfl) ?_
            try simp only [Act.put, List.setIfInBounds_toArray, List.set_cons_zero, List.set_cons_succ]
            refine take 3 _ rfl (by kernel_rfl) (by kernel_rfl) (by kernel_rfl) (fun _ _ _ h => h) (by rfl) hS (by intro w _; go_simp; with_reducible rfl) ?_
            try simp only [Act.put, List.setIfInBounds_toArray, List.set_cons_zero, List.set_cons_succ]
            refine take 4 (.agg DM.toArray) rfl (by kernel_rfl) (by kernel_rfl) (by kernel_rfl) (fun _ _ _ h => h) (by rfl) hS (fun V hV => run_mid_in 41 (.tmp 116) rfl gl (kk * 3) rfl DM _ (HRG.out V hV) rfl rfl (by rw [HDM.out]; kernel_rfl)) ?_
            try simp only [Act.put, List.setIfInBounds_toArray, List.set_cons_zero, List.set_cons_succ]
            refine take 5 _ rfl (by kernel_rfl) (by kernel_rfl) (by kernel_rfl) (fun _ _ _ h => h) (by rfl) hS (by intro w _; go_simp; with_reducible rfl) ?_
            try simp only [Act.put, List.setIfInBounds_toArray, List.set_cons_zero, List.set_cons_succ]
            refine take 6 _ rfl (by kernel_rfl) (by kernel_rfl) (by kernel_rfl) (fun _ _ _ h => h) (by rfl) hS (by intro w _; go_simp; with_reducible rfl) ?_
            try simp only [Act.put, List.setIfInBounds_toArray, List.set_cons_zero, List.set_cons_succ]
            obtain ⟨Φ, hΦ⟩ : ∃ Φ : Nat → Value → World → Prop, Φ = fun i => openPhi LB.toArray 80 (fun x _ => x = .slice none 0 0) M wr ((fun i => match i with | 7 => 1 | 8 => 2 | 9 => 3 | 10 => 4 | 11 => 5 | _ => 7) i) := ⟨_, rfl⟩
            have f1 : ∀ v0 w0, Φ 7 v0 w0 ↔ openPhi LB.toArray 80 (fun x _ => x = .slice none 0 0) M wr 1 v0 w0 := fun v0 w0 => by rw [hΦ]; exact Iff.rfl
            have f2 : ∀ v0 w0, Φ 8 v0 w0 ↔ openPhi LB.toArray 80 (fun x _ => x = .slice none 0 0) M wr 2 v0 w0 := fun v0 w0 => by rw [hΦ]; exact Iff.rfl
            have f3 : ∀ v0 w0, Φ 9 v0 w0 ↔ openPhi LB.toArray 80 (fun x _ => x = .slice none 0 0) M wr 3 v0 w0 := fun v0 w0 => by rw [hΦ]; exact Iff.rfl
            have f4 : ∀ v0 w0, Φ 10 v0 w0 ↔ openPhi LB.toArray 80 (fun x _ => x = .slice none 0 0) M wr 4 v0 w0 := fun v0 w0 => by rw [hΦ]; exact Iff.rfl
            have f5 : ∀ v0 w0, Φ 11 v0 w0 ↔ openPhi LB.toArray 80 (fun x _ => x = .slice none 0 0) M wr 5 v0 w0 := fun v0 w0 => by rw [hΦ]; exact Iff.rfl
            have f6 : ∀ v0 w0, Φ 12 v0 w0 ↔ openPhi LB.toArray 80 (fun x _ => x = .slice none 0 0) M wr 6 v0 w0 := fun v0 w0 => by rw [hΦ]; exact Iff.rfl
            have hst : ∀ i v w w', Φ i v w → Below w.heap.size w w' → Φ i v w' := fun i v w w' h hb => by rw [hΦ] at h ⊢; exact openPhi_stays (fun _ _ _ h _ => h) h hb
            clear hΦ
            refine FloatD.floatL (W := wr) [(7, 120), (8, 112), (9, 121), (10, 122), (11, 123), (12, 26)] [7, 8, 9, 10, 11, 12] [7, 8, 9, 12] [10, 11] Φ (fun i => i == 12) 3 rfl (by rfl) (by rfl) (by rfl) (by kernel_rfl) (by kernel_rfl) (by kernel_rfl) (by kernel_rfl) (by kernel_rfl) (by kernel_rfl) (fun ν => rfl) hS (fun _ h => h) (fun _ _ _ _ _ h => h) hst ?_ ?_ ?_
            · refine ⟨⟨_, _, rfl, ?_⟩, ⟨_, _, rfl, ?_⟩, ⟨_, _, rfl, ?_⟩, ⟨_, _, rfl, ?_⟩, trivial⟩
              · intro ν V hV hd
                simp only [FloatD.puts, Act.put, List.setIfInBounds_toArray, List.set_cons_zero, List.set_cons_succ]
                refine FloatD.step_call (f := 8) (args := #[.agg LB.toArray, .agg DM.toArray, .int .i64 (born + 1000)]) ?_ ?_ rfl
                · go_simp
                  try with_reducible rfl
                refine (HOP.out V).mono ?_
                rintro e w' ⟨rfl, hb⟩
                exact ⟨_, rfl, (f1 _ _).mpr ⟨_, rfl, rfl⟩, hb⟩
              · intro ν V hV hd
                obtain ⟨x, ex, hx⟩ := (f1 _ _).mp (hd 7 (by simp) (by kernel_rfl))
                simp only [FloatD.puts, Act.put, List.setIfInBounds_toArray, List.set_cons_zero, List.set_cons_succ]
                rw [ex]
                exact FloatD.step_value (by go_simp; try with_reducible rfl) ((f2 _ _).mpr ⟨x, rfl, hx⟩) rfl
              · intro ν V hV hd
                obtain ⟨x, ex, hx⟩ := (f2 _ _).mp (hd 8 (by simp) (by kernel_rfl))
                simp only [FloatD.puts, Act.put, List.setIfInBounds_toArray, List.set_cons_zero, List.set_cons_succ]
                rw [ex]
                exact FloatD.step_value (v := .agg LB.toArray) (by go_simp; try with_reducible rfl) ((f3 _ _).mpr rfl) rfl
              · intro ν V hV hd
                simp only [FloatD.puts, Act.put, List.setIfInBounds_toArray, List.set_cons_zero, List.set_cons_succ]
                refine FloatD.step_new (T := 35) (zs := M.toArray) ?_ ((f6 _ _).mpr ⟨_, rfl, hV.size, Whole.new _ _ _⟩)
                have hz := HZ.out
                go_simp
                try rfl
            · refine ⟨⟨rfl, _, _, rfl, ?_⟩, ⟨rfl, _, _, rfl, ?_⟩, trivial⟩
              · intro ν V hV hd
                obtain ⟨x, ex, hx⟩ := (f2 _ _).mp (hd 8 (by simp) (by kernel_rfl))
                refine ⟨x, (f4 _ _).mpr ⟨x, rfl, hx⟩, fun V' => ?_⟩
                simp only [FloatD.puts, Act.put, List.setIfInBounds_toArray, List.set_cons_zero, List.set_cons_succ]
                rw [ex]
                go_simp
                try with_reducible rfl
              · intro ν V hV hd
                obtain ⟨x, ex, hx⟩ := (f2 _ _).mp (hd 8 (by simp) (by kernel_rfl))
                refine ⟨.int .i64 80, (f5 _ _).mpr rfl, fun V' => ?_⟩
                simp only [FloatD.puts, Act.put, List.setIfInBounds_toArray, List.set_cons_zero, List.set_cons_succ]
                rw [ex]
                go_simp
                try with_reducible rfl
            intro ν V3 hS ⟨h1, h2, h3, h4, h5, h6, _⟩ ha
            obtain ⟨x1, ex1, -⟩ := (f1 _ _).mp h1
            obtain ⟨x2, ex2, -⟩ := (f2 _ _).mp h2
            have e3 := (f3 _ _).mp h3
            obtain ⟨x, e4, hx⟩ := (f4 _ _).mp h4
            have e5 := (f5 _ _).mp h5
            obtain ⟨gp, e6, hgp, hwp⟩ := (f6 _ _).mp h6
            clear ha hst h1 h2 h3 h4 h5 h6 f1 f2 f3 f4 f5 f6
            simp only [FloatD.puts, Act.put, List.setIfInBounds_toArray, List.set_cons_zero, List.set_cons_succ]
            rw [ex1, ex2, e3, e4, e5, e6]
            clear ex1 ex2 e3 e4 e5 e6
            subst hx
            refine alone 13 rfl (by kernel_rfl) (by rfl) ?_
            intro KK hKK
            refine wp_store_row 35 (.tmp 26) (.tmp 121) rfl gp LB.toArray rfl rfl 35 _ hwp (by rw [List.size_toArray, HBS.out]; kernel_rfl) (by rw [List.size_toArray, List.size_toArray, HBS.out, HMS.out]) HB1.out ?_
            replace hS := below_setRow hS hgp LB.toArray
            replace hwp := setRow_heap _ _ _ LB.toArray _ _ hwp
            refine hKK.out _ _ hS ?_
            clear hKK KK
            try simp only [Act.put]
            refine take 14 _ rfl (by kernel_rfl) (by kernel_rfl) (by kernel_rfl) (fun _ _ _ h => h) (by rfl) hS (by intro w _; go_simp; with_reducible rfl) ?_
            try simp only [Act.put, List.setIfInBounds_toArray, List.set_cons_zero, List.set_cons_succ]
            refine take 15 _ rfl (by kernel_rfl) (by kernel_rfl) (by kernel_rfl) (fun _ _ _ h => h) (by rfl) hS (by intro w _; go_simp; with_reducible rfl) ?_
            try simp only [Act.put, List.setIfInBounds_toArray, List.set_cons_zero, List.set_cons_succ]
            refine region_end (by kernel_rfl) ?_
            have HGP := Lib.hid hwp
            have H3 := Lib.hid (H2.out.below hS)
            have hcc := HC20.out _ hS
            have HGB3 := Lib.hid (HGB.out.below hS HGB.out.lt)
            clear hwp hgp hS
            generalize hX3 : V3.setRow gp LB.toArray = X3 at HGP H3 hcc HGB3 ⊢
            clear hX3 H2
            go_wp2_with (first
              | (refine Poly.wpList_load_row_if rfl 35 (.tmp 26) rfl gp rfl 35 LB _ HGP.out rfl rfl (by rw [HBS.out]; kernel_rfl) ?_)
              | (refine Poly.wpList_load_row_if rfl 35 (.tmp 16) rfl (G + 1) rfl 35 LB _ HGB3.out rfl rfl (by rw [HBS.out]; kernel_rfl) ?_)
              | (refine Ops.wpList_value_if (by rfl) (.bool false) (Ops.run_neq_op 35 (.tmp 130) (.tmp 131) 35 rfl LB.toArray LB.toArray rfl rfl true false rfl (by kernel_rfl) HEQ.out _) ?_))
            go_roundw
            case rel => exact ⟨k2 + 1, cm, st, TL, by omega, by go_num, H3.out⟩
            case measure => simp [intOf]; omega
          · have hkn : kk ∉ TL := fun h => hcm ((H2.out.mem kk).1 h).2
            have hck : check st kk = 0 := check_new H2.out.is hkn hk20 (fun j hj => by have := (H2.out.mem j).1 hj; omega)
            have HIS := Lib.hid (put_is H2.out.is hck)
            have HCF := Lib.hid (show cm kk = false by simpa using hcm)
            have HRB2 := Lib.hid (show ∀ V, Below wr.heap.size wr V → Rd V Ab (Nx kk + 16) (boxF s (bn (byteAt kk)) (Fx kk) (Nx kk) (fun _ => 0) 0) from fun V hV => hown.rd.below hV (Nat.le_refl _))
            have hqk := HO.out kk hkl
            have HOP := Lib.hid (show ∀ V, Below wr.heap.size wr V → Calls Try.prog 8 #[.agg (pairL { Pr.newP r s m l false born with win := st }).toArray, .agg (dataL m kk (D kk)).toArray, .int .i64 (born + 1000)] V fun e w' => ∃ ga, e = .returned (.tuple #[.agg (pairL { Pr.newP r s m l false born with win := put st kk }).toArray, .slice (some ⟨ga, 0, none⟩) (Nx kk) (Nx kk), .int .i64 0]) ∧ Whole w' ga 5 (byteCells (Fx kk) (Nx kk)).toArray ∧ Below V.heap.size V w' from
              fun V hV => by
                rw [hDk]
                refine (Pr.open_fineW { Pr.newP r s m l false born with win := st } HP.out (born + 1000) (by omega) (by omega) kk (by omega) Ab (Nx kk + 16) (Nx kk + 16) (boxF s (bn (byteAt kk)) (Fx kk) (Nx kk) (fun _ => 0) 0) (fun i => boxF_lt _ _ HFX.out _ _ _ _) (Nat.le_refl _) (by omega) V (HRB2.out V hV) HOLD.out hck (Nx kk) rfl (by omega) (fun i hi => by have h := box_fits s (bn (byteAt kk)) (Fx kk) (Nx kk) (fun _ => 0) 0 i hi; rwa [Nat.add_sub_cancel] at h)).mono ?_
                rintro e w' ⟨ga, he, hga, hb⟩
                refine ⟨ga, ?_, ?_, hb⟩
                · rw [he]
                  show Ending.returned (Value.tuple #[.agg (pairL { Pr.newP r s m l false born with win := take st kk }).toArray, _, _]) = _
                  rw [show take st kk = put st kk from if_pos hck]
                · rw [cells_congr (f := Fx kk) (g := xo s (bn (byteAt kk)) 1 (boxF s (bn (byteAt kk)) (Fx kk) (Nx kk) (fun _ => 0) 0)) (fun i hi => (box_back s (bn (byteAt kk)) (Fx kk) (Nx kk) (fun _ => 0) 0 hi).symm)]
                  exact hga)
            have HBS2 := Lib.hid (pairL_length { Pr.newP r s m l false born with win := put st kk })
            have HB12 := Lib.hid (pair_one { Pr.newP r s m l false born with win := put st kk })
            obtain ⟨bb, off, rfl, hbl, hx⟩ := HI.out.2.2.2.2.elim (fun h0 => absurd h0 (by omega)) id
            have hc5 := hx kk hkl
            have hrd := HI.out.2.2.2.1 kk hkl
            have HXC := Lib.hid (show ∀ Y, Below w.heap.size w Y → Y.cell? ⟨bb, off + kk, none⟩ = some (.slice (Ax kk) (Nx kk) (Cx kk)) from fun Y hY => by
              rw [← hc5]
              unfold World.cell?
              rw [hY.block bb hbl])
            have HRD := Lib.hid (show ∀ Y, Below w.heap.size w Y → Rd Y (Ax kk) (Nx kk) (Fx kk) from fun Y hY => hrd.1.below hY (Nat.le_refl _))
            clear hx hc5 hrd hbl hqk
            obtain ⟨DM, hDM⟩ : ∃ L, dataL m kk (D kk) = L := ⟨_, rfl⟩
            obtain ⟨LB, hLB⟩ : ∃ L, pairL { Pr.newP r s m l false born with win := st } = L := ⟨_, rfl⟩
            obtain ⟨LB2, hLB2⟩ : ∃ L, pairL { Pr.newP r s m l false born with win := put st kk } = L := ⟨_, rfl⟩
            obtain ⟨PF, hPF⟩ : ∃ F, Fx kk = F := ⟨_, rfl⟩
            obtain ⟨Ak, hAk⟩ : ∃ A, Ax kk = A := ⟨_, rfl⟩
            obtain ⟨ck, hck2⟩ : ∃ c, Cx kk = c := ⟨_, rfl⟩
            obtain ⟨q, hq⟩ : ∃ q, Nx kk = q := ⟨_, rfl⟩
            have HLB2 := Lib.hid hLB2
            rw [hDM] at HRG HDM HOP
            rw [hLB] at HOP HBS HB1 HGB
            rw [hLB2] at HOP HBS2 HB12
            rw [hPF] at HOP HRD
            rw [hAk, hck2, hq] at HXC
            rw [hAk, hq] at HRD
            rw [hq] at HOP
            rw [HCF.out] at HC20
            clear hDM hLB hLB2 hPF hAk hck2 hq hDk hown hcm hkn hck HRB2 HFX HP HOLD
            refine region_start (fun Y => Below wr.heap.size wr Y) (by kernel_rfl) (below_drewN (Below.refl _ _) 1) ?_
            intro V0 hS
            refine take 0 (.agg LB.toArray) rfl (by kernel_rfl) (by kernel_rfl) (by kernel_rfl) (fun _ _ _ h => h) (by rfl) hS (fun V hV => run_mid_in 35 (.tmp 16) rfl (G + 1) 0 rfl LB _ (whole_range (HGB.out.below hV HGB.out.lt)) rfl rfl (by rw [HBS.out]; kernel_rfl)) ?_
            try simp only [Act.put, List.setIfInBounds_toArray, List.set_cons_zero, List.set_cons_succ]
            refine take 1 _ rfl (by kernel_rfl) (by kernel_rfl) (by kernel_rfl) (fun _ _ _ h => h) (by rfl) hS (by intro w _; go_simp; with_reducible rfl) ?_
            try simp only [Act.put, List.setIfInBounds_toArray, List.set_cons_zero, List.set_cons_succ]
            refine take 2 _ rfl (by kernel_rfl) (by kernel_rfl) (by kernel_rfl) (fun _ _ _ h => h) (by rfl) hS (by intro w _; go_simp; with_reducible rfl) ?_
            try simp only [Act.put, List.setIfInBounds_toArray, List.set_cons_zero, List.set_cons_succ]
            refine take 3 _ rfl (by kernel_rfl) (by kernel_rfl) (by kernel_rfl) (fun _ _ _ h => h) (by rfl) hS (by intro w _; go_simp; with_reducible rfl) ?_
            try simp only [Act.put, List.setIfInBounds_toArray, List.set_cons_zero, List.set_cons_succ]
            refine take 4 (.agg DM.toArray) rfl (by kernel_rfl) (by kernel_rfl) (by kernel_rfl) (fun _ _ _ h => h) (by rfl) hS (fun V hV => run_mid_in 41 (.tmp 116) rfl gl (kk * 3) rfl DM _ (HRG.out V hV) rfl rfl (by rw [HDM.out]; kernel_rfl)) ?_
            try simp only [Act.put, List.setIfInBounds_toArray, List.set_cons_zero, List.set_cons_succ]
            refine take 5 _ rfl (by kernel_rfl) (by kernel_rfl) (by kernel_rfl) (fun _ _ _ h => h) (by rfl) hS (by intro w _; go_simp; with_reducible rfl) ?_
            try simp only [Act.put, List.setIfInBounds_toArray, List.set_cons_zero, List.set_cons_succ]
            refine take 6 _ rfl (by kernel_rfl) (by kernel_rfl) (by kernel_rfl) (fun _ _ _ h => h) (by rfl) hS (by intro w _; go_simp; with_reducible rfl) ?_
            try simp only [Act.put, List.setIfInBounds_toArray, List.set_cons_zero, List.set_cons_succ]
            obtain ⟨Φ, hΦ⟩ : ∃ Φ : Nat → Value → World → Prop, Φ = fun i => openPhi LB2.toArray 0 (fun x w0 => ∃ ga, x = .slice (some ⟨ga, 0, none⟩) q q ∧ Whole w0 ga 5 (byteCells PF q).toArray) M wr ((fun i => match i with | 7 => 1 | 8 => 2 | 9 => 3 | 10 => 4 | 11 => 5 | _ => 7) i) := ⟨_, rfl⟩
            have f1 : ∀ v0 w0, Φ 7 v0 w0 ↔ openPhi LB2.toArray 0 (fun x w0 => ∃ ga, x = .slice (some ⟨ga, 0, none⟩) q q ∧ Whole w0 ga 5 (byteCells PF q).toArray) M wr 1 v0 w0 := fun v0 w0 => by rw [hΦ]; exact Iff.rfl
            have f2 : ∀ v0 w0, Φ 8 v0 w0 ↔ openPhi LB2.toArray 0 (fun x w0 => ∃ ga, x = .slice (some ⟨ga, 0, none⟩) q q ∧ Whole w0 ga 5 (byteCells PF q).toArray) M wr 2 v0 w0 := fun v0 w0 => by rw [hΦ]; exact Iff.rfl
            have f3 : ∀ v0 w0, Φ 9 v0 w0 ↔ openPhi LB2.toArray 0 (fun x w0 => ∃ ga, x = .slice (some ⟨ga, 0, none⟩) q q ∧ Whole w0 ga 5 (byteCells PF q).toArray) M wr 3 v0 w0 := fun v0 w0 => by rw [hΦ]; exact Iff.rfl
            have f4 : ∀ v0 w0, Φ 10 v0 w0 ↔ openPhi LB2.toArray 0 (fun x w0 => ∃ ga, x = .slice (some ⟨ga, 0, none⟩) q q ∧ Whole w0 ga 5 (byteCells PF q).toArray) M wr 4 v0 w0 := fun v0 w0 => by rw [hΦ]; exact Iff.rfl
            have f5 : ∀ v0 w0, Φ 11 v0 w0 ↔ openPhi LB2.toArray 0 (fun x w0 => ∃ ga, x = .slice (some ⟨ga, 0, none⟩) q q ∧ Whole w0 ga 5 (byteCells PF q).toArray) M wr 5 v0 w0 := fun v0 w0 => by rw [hΦ]; exact Iff.rfl
            have f6 : ∀ v0 w0, Φ 12 v0 w0 ↔ openPhi LB2.toArray 0 (fun x w0 => ∃ ga, x = .slice (some ⟨ga, 0, none⟩) q q ∧ Whole w0 ga 5 (byteCells PF q).toArray) M wr 6 v0 w0 := fun v0 w0 => by rw [hΦ]; exact Iff.rfl
            have hst : ∀ i v w w', Φ i v w → Below w.heap.size w w' → Φ i v w' := fun i v w w' h hb => by rw [hΦ] at h ⊢; exact openPhi_stays (fun _ _ _ ⟨ga, e, h⟩ hb => ⟨ga, e, h.below hb h.lt⟩) h hb
            clear hΦ
            refine FloatD.floatL (W := wr) [(7, 120), (8, 112), (9, 121), (10, 122), (11, 123), (12, 26)] [7, 8, 9, 10, 11, 12] [7, 8, 9, 12] [10, 11] Φ (fun i => i == 12) 3 rfl (by rfl) (by rfl) (by rfl) (by kernel_rfl) (by kernel_rfl) (by kernel_rfl) (by kernel_rfl) (by kernel_rfl) (by kernel_rfl) (fun ν => rfl) hS (fun _ h => h) (fun _ _ _ _ _ h => h) hst ?_ ?_ ?_
            · refine ⟨⟨_, _, rfl, ?_⟩, ⟨_, _, rfl, ?_⟩, ⟨_, _, rfl, ?_⟩, ⟨_, _, rfl, ?_⟩, trivial⟩
              · intro ν V hV hd
                simp only [FloatD.puts, Act.put, List.setIfInBounds_toArray, List.set_cons_zero, List.set_cons_succ]
                refine FloatD.step_call (f := 8) (args := #[.agg LB.toArray, .agg DM.toArray, .int .i64 (born + 1000)]) ?_ ?_ rfl
                · go_simp
                  try with_reducible rfl
                refine (HOP.out V hV).mono ?_
                rintro e w' ⟨ga, rfl, hga, hb⟩
                exact ⟨_, rfl, (f1 _ _).mpr ⟨_, rfl, ga, rfl, hga⟩, hb⟩
              · intro ν V hV hd
                obtain ⟨x, ex, hx⟩ := (f1 _ _).mp (hd 7 (by simp) (by kernel_rfl))
                simp only [FloatD.puts, Act.put, List.setIfInBounds_toArray, List.set_cons_zero, List.set_cons_succ]
                rw [ex]
                exact FloatD.step_value (by go_simp; try with_reducible rfl) ((f2 _ _).mpr ⟨x, rfl, hx⟩) rfl
              · intro ν V hV hd
                obtain ⟨x, ex, hx⟩ := (f2 _ _).mp (hd 8 (by simp) (by kernel_rfl))
                simp only [FloatD.puts, Act.put, List.setIfInBounds_toArray, List.set_cons_zero, List.set_cons_succ]
                rw [ex]
                exact FloatD.step_value (v := .agg LB2.toArray) (by go_simp; try with_reducible rfl) ((f3 _ _).mpr rfl) rfl
              · intro ν V hV hd
                simp only [FloatD.puts, Act.put, List.setIfInBounds_toArray, List.set_cons_zero, List.set_cons_succ]
                refine FloatD.step_new (T := 35) (zs := M.toArray) ?_ ((f6 _ _).mpr ⟨_, rfl, hV.size, Whole.new _ _ _⟩)
                have hz := HZ.out
                go_simp
                try rfl
            · refine ⟨⟨rfl, _, _, rfl, ?_⟩, ⟨rfl, _, _, rfl, ?_⟩, trivial⟩
              · intro ν V hV hd
                obtain ⟨x, ex, hx⟩ := (f2 _ _).mp (hd 8 (by simp) (by kernel_rfl))
                refine ⟨x, (f4 _ _).mpr ⟨x, rfl, hx⟩, fun V' => ?_⟩
                simp only [FloatD.puts, Act.put, List.setIfInBounds_toArray, List.set_cons_zero, List.set_cons_succ]
                rw [ex]
                go_simp
                try with_reducible rfl
              · intro ν V hV hd
                obtain ⟨x, ex, hx⟩ := (f2 _ _).mp (hd 8 (by simp) (by kernel_rfl))
                refine ⟨.int .i64 0, (f5 _ _).mpr rfl, fun V' => ?_⟩
                simp only [FloatD.puts, Act.put, List.setIfInBounds_toArray, List.set_cons_zero, List.set_cons_succ]
                rw [ex]
                go_simp
                try with_reducible rfl
            intro ν V3 hS ⟨h1, h2, h3, h4, h5, h6, _⟩ ha
            obtain ⟨x1, ex1, -⟩ := (f1 _ _).mp h1
            obtain ⟨x2, ex2, -⟩ := (f2 _ _).mp h2
            have e3 := (f3 _ _).mp h3
            obtain ⟨x, e4, hx⟩ := (f4 _ _).mp h4
            have e5 := (f5 _ _).mp h5
            obtain ⟨gp, e6, hgp, hwp⟩ := (f6 _ _).mp h6
            clear ha hst h1 h2 h3 h4 h5 h6 f1 f2 f3 f4 f5 f6
            simp only [FloatD.puts, Act.put, List.setIfInBounds_toArray, List.set_cons_zero, List.set_cons_succ]
            rw [ex1, ex2, e3, e4, e5, e6]
            clear ex1 ex2 e3 e4 e5 e6
            obtain ⟨ga, rfl, hga⟩ := hx
            refine alone 13 rfl (by kernel_rfl) (by rfl) ?_
            intro KK hKK
            refine wp_store_row 35 (.tmp 26) (.tmp 121) rfl gp LB2.toArray rfl rfl 35 _ hwp (by rw [List.size_toArray, HBS2.out]; kernel_rfl) (by rw [List.size_toArray, List.size_toArray, HBS2.out, HMS.out]) HB12.out ?_
            replace hga := Whole.farRow hga (Pr.other hga hwp) LB2.toArray
            replace hS := below_setRow hS hgp LB2.toArray
            replace hwp := setRow_heap _ _ _ LB2.toArray _ _ hwp
            refine hKK.out _ _ hS ?_
            clear hKK KK
            try simp only [Act.put]
            refine take 14 _ rfl (by kernel_rfl) (by kernel_rfl) (by kernel_rfl) (fun _ _ _ h => h) (by rfl) hS (by intro w _; go_simp; with_reducible rfl) ?_
            try simp only [Act.put, List.setIfInBounds_toArray, List.set_cons_zero, List.set_cons_succ]
            refine take 15 _ rfl (by kernel_rfl) (by kernel_rfl) (by kernel_rfl) (fun _ _ _ h => h) (by rfl) hS (by intro w _; go_simp; with_reducible rfl) ?_
            try simp only [Act.put, List.setIfInBounds_toArray, List.set_cons_zero, List.set_cons_succ]
            refine region_end (by kernel_rfl) ?_
            have HGP := Lib.hid hwp
            have H3 := Lib.hid (H2.out.below hS)
            have hcc := HC20.out _ hS
            have HGB3 := Lib.hid (HGB.out.below hS HGB.out.lt)
            have HGA3 := Lib.hid hga
            have HGX := Lib.hid (show Gc < gp from Nat.lt_of_lt_of_le H2.out.gc.lt hgp)
            clear hwp hgp hS hga
            generalize hX3 : V3.setRow gp LB2.toArray = X3 at HGP H3 hcc HGB3 HGA3 ⊢
            clear hX3 H2
            go_upto_region 24 with fail
            clear hcc
            have hcT := HXC.out X3 H3.out.tw.bel
            refine region_start (fun Y => Below X3.heap.size X3 Y) (by kernel_rfl) (below_drewN (Below.refl _ _) 1) ?_
            intro X4 hS
            refine take 0 _ rfl (by kernel_rfl) (by kernel_rfl) (by kernel_rfl) (fun _ _ _ h => h) (by rfl) hS (by intro w _; go_simp; with_reducible rfl) ?_
            try simp only [Act.put, List.setIfInBounds_toArray, List.set_cons_zero, List.set_cons_succ]
            refine take 1 _ rfl (by kernel_rfl) (by kernel_rfl) (by kernel_rfl) (fun _ _ _ h => h) (by rfl) hS (by intro w _; go_simp; with_reducible rfl) ?_
            try simp only [Act.put, List.setIfInBounds_toArray, List.set_cons_zero, List.set_cons_succ]
            refine take 2 _ rfl (by kernel_rfl) (by kernel_rfl) (by kernel_rfl) (fun _ _ _ h => h) (by rfl) hS (by intro w _; go_simp; with_reducible rfl) ?_
            try simp only [Act.put, List.setIfInBounds_toArray, List.set_cons_zero, List.set_cons_succ]
            refine take 3 _ rfl (by kernel_rfl) (by kernel_rfl) (by kernel_rfl) (fun _ _ _ h => h) (by rfl) hS (by intro w _; go_simp; with_reducible rfl) ?_
            try simp only [Act.put, List.setIfInBounds_toArray, List.set_cons_zero, List.set_cons_succ]
            refine take 4 _ rfl (by kernel_rfl) (by kernel_rfl) (by kernel_rfl) (fun _ _ _ h => h) (by rfl) hS (fun w hw => run_string_op 26 9 5 _ rfl rfl Try.underlying26 Try.underlying5 Try.underlying9 (Rd.of_whole (HGA3.out.below hw HGA3.out.lt))) ?_
            try simp only [Act.put, List.setIfInBounds_toArray, List.set_cons_zero, List.set_cons_succ]
            refine take 5 _ rfl (by kernel_rfl) (by kernel_rfl) (by kernel_rfl) (fun _ _ _ h => h) (by rfl) hS (by intro w _; go_simp; with_reducible rfl) ?_
            try simp only [Act.put, List.setIfInBounds_toArray, List.set_cons_zero, List.set_cons_succ]
            refine take 6 _ rfl (by kernel_rfl) (by kernel_rfl) (by kernel_rfl) (fun _ _ _ h => h) (by rfl) hS (by intro w _; go_simp; with_reducible rfl) ?_
            try simp only [Act.put, List.setIfInBounds_toArray, List.set_cons_zero, List.set_cons_succ]
            refine take 7 _ rfl (by kernel_rfl) (by kernel_rfl) (by kernel_rfl) (fun _ _ _ h => h) (by rfl) hS (by intro w _; go_simp; with_reducible rfl) ?_
            try simp only [Act.put, List.setIfInBounds_toArray, List.set_cons_zero, List.set_cons_succ]
            refine take 8 _ rfl (by kernel_rfl) (by kernel_rfl) (by kernel_rfl) (fun _ _ _ h => h) (by rfl) hS (by intro w hw; have hcl := HXC.out w (below_trans H3.out.tw.bel hw); go_simp; with_reducible rfl) ?_
            try simp only [Act.put, List.setIfInBounds_toArray, List.set_cons_zero, List.set_cons_succ]
            refine take 9 _ rfl (by kernel_rfl) (by kernel_rfl) (by kernel_rfl) (fun _ _ _ h => h) (by rfl) hS (fun w hw => run_string_op 26 9 5 _ rfl rfl Try.underlying26 Try.underlying5 Try.underlying9 (HRD.out w (below_trans H3.out.tw.bel hw))) ?_
            try simp only [Act.put, List.setIfInBounds_toArray, List.set_cons_zero, List.set_cons_succ]
            refine take 10 _ rfl (by kernel_rfl) (by kernel_rfl) (by kernel_rfl) (fun _ _ _ h => h) (by rfl) hS (by intro w _; go_simp; with_reducible rfl) ?_
            try simp only [Act.put, List.setIfInBounds_toArray, List.set_cons_zero, List.set_cons_succ]
            refine take 11 _ rfl (by kernel_rfl) (by kernel_rfl) (by kernel_rfl) (fun _ _ _ h => h) (by rfl) hS (by intro w _; go_simp; with_reducible rfl) ?_
            try simp only [Act.put, List.setIfInBounds_toArray, List.set_cons_zero, List.set_cons_succ]
            refine region_end (by kernel_rfl) ?_
            replace HGP := Lib.hid (Whole.below HGP.out hS (Whole.lt HGP.out))
            replace HGB3 := Lib.hid (Whole.below HGB3.out hS (Whole.lt HGB3.out))
            replace H3 := Lib.hid (H3.out.below hS)
            have hcc := (H3.out.gc.cell kk).trans (boolL_get cm kk hk20)
            rw [HCF.out] at hcc
            have hff := H3.out.gc.free kk
            clear hS HGA3 hcT
            go_upto_region 27 with fail
            clear hcc hff
            have hgx := HGX.out
            have hc0 := HC0.out
            have hge := HGE.out
            have HGP5 := Lib.hid (Whole.far HGP.out (show gp ≠ (⟨Gc, kk, none⟩ : Addr).block from by show gp ≠ Gc; omega) (.bool true))
            have HGB5 := Lib.hid (Whole.far HGB3.out (show G + 1 ≠ (⟨Gc, kk, none⟩ : Addr).block from by show G + 1 ≠ Gc; omega) (.bool true))
            have HGC5 := Lib.hid (show Whole (X4.setCell ⟨Gc, kk, none⟩ (.bool true)) Gc 45 (boolL fun j => if j = kk then true else cm j).toArray from by have h := H3.out.gc.put kk (.bool true); rwa [boolL_set] at h)
            have HGA5 := Lib.hid (Whole.far H3.out.ga (show G ≠ (⟨Gc, kk, none⟩ : Addr).block from by show G ≠ Gc; omega) (.bool true))
            have HTW5 := Lib.hid (H3.out.tw.step (Kp.setCell (i := kk) (v := .bool true) H3.out.gc (by decide)) (Kp.setCell H3.out.gc (by decide)) (H3.out.tw.bel.setCell (show w.heap.size ≤ Gc by omega) _))
            have HMM := Lib.hid H3.out.mem
            clear H3 HGP HGB3
            generalize X4.setCell ⟨Gc, kk, none⟩ (.bool true) = X5 at HGP5 HGB5 HGC5 HGA5 HTW5 ⊢
            go_wp2_with (first
              | (refine Poly.wpList_load_row_if rfl 35 (.tmp 26) rfl gp rfl 35 LB2 _ HGP5.out rfl rfl (by rw [HBS2.out]; kernel_rfl) ?_)
              | (refine wpList_store_row rfl 35 (.tmp 16) (.tmp 148) rfl (G + 1) LB2.toArray rfl rfl 35 _ HGB5.out (by rw [List.size_toArray, HBS2.out]; kernel_rfl) (by rw [List.size_toArray, List.size_toArray, HBS2.out, HBS.out]) HB12.out ?_))
            go_roundw
            case rel =>
              refine ⟨k2 + 1, fun j => if j = kk then true else cm j, put st kk, TL ++ [kk], by omega, by go_num, ⟨HTW5.out.step (Kp.setRow HGB5.out (by decide)) (Kp.setRow HGB5.out (by decide)) (below_setRow HTW5.out.bel (by omega) _), Whole.farRow HGA5.out (by omega) _, ?_, Whole.farRow HGC5.out (by omega) _, HIS.out, fun j => ?_⟩⟩
              · rw [HLB2.out]
                exact setRow_heap _ _ _ _ _ _ HGB5.out
              · rw [List.mem_append, List.mem_singleton, HMM.out]
                by_cases hj : j = kk
                · subst hj
                  simp [hkl]
                · simp [hj]
            case measure => simp [intOf]; omega
        · have HAT := Lib.hid (show ∀ X, Whole X G 35 (pairL { Pr.newP s r l m true born with sent := k }).toArray → X.cell? ⟨G, 68, none⟩ = some (.int .u64 (k : Nat)) from fun X h => at_sent h)
          have hku : IntKind.u64.wrap (k : Int) = (k : Int) := by rw [IntKind.wrap_u64]; omega
          by_cases e1 : k2 < n6
          · by_cases e2 : k2 < 60
            · have e3 : k = 0 := by omega
              have e4 : (k2 : Int) < 60 := by omega
              have e5 : decide ((0 : Int) < (k : Int)) = false := decide_eq_false (by omega)
              clear hc
              go_wp2_with fail
              refine (HAL.out _).mono ?_
              rintro e w9 ⟨rfl, hb⟩
              have hat := HAT.out _ (H2.out.below hb).ga
              have HB9 := Lib.hid (H2.out.below hb).tw.bel
              clear hb
              go_wp2_with fail
              go_ret
              exact ⟨rfl, HB9.out⟩
            · have e4 : decide ((k2 : Int) < 60) = false := decide_eq_false (by omega)
              clear hc
              go_wp2_with fail
              refine (HAL.out _).mono ?_
              rintro e w9 ⟨rfl, hb⟩
              have hat := HAT.out _ (H2.out.below hb).ga
              have HB9 := Lib.hid (H2.out.below hb).tw.bel
              clear hb
              go_wp2_with fail
              go_ret
              exact ⟨rfl, HB9.out⟩
          · have e4 : decide ((k2 : Int) < (n6 : Int)) = false := decide_eq_false (by omega)
            clear hc
            go_wp2_with fail
            refine (HAL.out _).mono ?_
            rintro e w9 ⟨rfl, hb⟩
            have hat := HAT.out _ (H2.out.below hb).ga
            have HB9 := Lib.hid (H2.out.below hb).tw.bel
            clear hb
            go_wp2_with fail
            go_ret
            exact ⟨rfl, HB9.out⟩

theorem walk (s r : Nat → Nat) (a2 a3 born : Int) (A5 : Option Addr) (n5 c5 : Nat) (Ax : Nat → Option Addr) (Nx Cx : Nat → Nat) (Fx : Nat → Nat → Nat) (a6 : Option Addr) (n6 c6 : Nat) (z6 : List Int) (w : World) (hs : ∀ i, s i < 256) (hr : ∀ i, r i < 256) (h2 : (Lit.int .u32 a2).wf = true) (h3 : (Lit.int .u32 a3).wf = true) (_ : (Lit.int .i64 born).wf = true) (h5 : Arr.IsSlices w A5 n5 c5 Ax Nx Cx Fx) (h6 : IsRow .u8 w a6 n6 c6 z6) :
    Calls Try.prog 3 #[.agg (byteCells s 32).toArray, .agg (byteCells r 32).toArray, .int .u32 a2, .int .u32 a3, .int .i64 born, .slice A5 n5 c5, .slice a6 n6 c6] w fun e w' => e = .returned (.bool true) ∧ Below w.heap.size w w' := by
  obtain ⟨l, rfl, hl⟩ := nat_u32 h2
  obtain ⟨m, rfl, hm⟩ := nat_u32 h3
  obtain ⟨f6, hf6, hr6, _⟩ := rd_of_row h6
  cases hb : rightT born
  · exact walk_no s r l m born A5 n5 c5 a6 n6 c6 (pairL noP) (pairL noP) (pairL_length _) (pairL_length _) (pair_one _) (pair_one _) w (fun w => Pr.ends_no s r l m born hb w)
  have h0 : 0 ≤ born ∧ born ≤ 1099511627776 := by simpa [rightT] using hb
  by_cases hmax : born ≤ 1099511427776
  · by_cases hn : 20 < n5
    · exact walk_big s r l m born A5 n5 c5 a6 n6 c6 (pairL (Pr.newP s r l m true born)) (pairL (Pr.newP r s m l false born)) (pairL_length _) (pairL_length _) (pair_one _) (pair_one _) hn w (fun w => Pr.ends_ok s r l m born hb hmax w)
    · exact walk_main s r l m born A5 n5 c5 a6 n6 c6 (pairL (Pr.newP s r l m true born)) (pairL (Pr.newP r s m l false born)) (pairL_length _) (pairL_length _) (pair_one _) (pair_one _) rfl rfl hs hr ⟨hl, hm⟩ h0.1 hmax (by omega) f6 hf6 Ax Nx Cx Fx w h5 hr6 (fun w => Pr.ends_ok s r l m born hb hmax w)
  · exact walk_no s r l m born A5 n5 c5 a6 n6 c6 (pairL (Pr.newP s r l m true born)) (pairL (Pr.newP r s m l false born)) (pairL_length _) (pairL_length _) (pair_one _) (pair_one _) w (fun w => Pr.ends_late s r l m born hb hmax w)

end PairTalks
end Go.Proofs.Ytcncdejdpcelpaa
