/- 'ends' of the statements of layer 20; blocks of a type that stay. -/
import Derived.Test.YtcncdejdpcelpaaPairAli
namespace Go.Proofs.Ytcncdejdpcelpaa
namespace Pr
open Go.ChangeShapes Go.WideShapes Go.ChangeAt Go.RowKit
open Num Mem Words Chacha Aead Poly Ops Quiet WinT Win

/-- the blocks of type T stay -/
def Kp (T : TypeId) (X Y : World) : Prop := ∀ (g : Nat) (cs : Array Value) (fz : Nat × Nat), X.heap[g]? = some (Obj.cells cs T fz) → Y.heap[g]? = some (Obj.cells cs T fz)
theorem Kp.trans {T : TypeId} {X Y Z : World} (h : Kp T X Y) (k : Kp T Y Z) : Kp T X Z := fun g cs fz e => k g cs fz (h g cs fz e)
theorem Kp.below {T : TypeId} {X Y : World} (h : Below X.heap.size X Y) : Kp T X Y := fun g cs fz e => by
  rw [h.block g (Array.getElem?_eq_some_iff.1 e).1]
  exact e
theorem Kp.setRow {T U : TypeId} {X : World} {g : Nat} {cs xs : Array Value} (hw : Whole X g U cs) (hT : U ≠ T) : Kp T X (X.setRow g xs) := fun k ds fz e => by
  by_cases hk : k = g
  · subst hk
    have e2 := hw.symm.trans e
    injection e2 with e2
    injection e2 with _ e2
    exact absurd e2 hT
  · rw [setRow_other X g k xs hk]
    exact e
theorem Kp.setCell {T U : TypeId} {X : World} {g i : Nat} {cs : Array Value} {v : Value} (hw : Whole X g U cs) (hT : U ≠ T) : Kp T X (X.setCell ⟨g, i, none⟩ v) := fun k ds fz e => by
  by_cases hk : k = g
  · subst hk
    have e2 := hw.symm.trans e
    injection e2 with e2
    injection e2 with _ e2
    exact absurd e2 hT
  · rw [Below.heap_setCell X ⟨g, i, none⟩ v k hk]
    exact e
theorem Kp.grown {T U : TypeId} {X Y : World} {B size n : Nat} {v : Value} {xs : List Value} (hg : X.grownBy Y v.ownBlock) (ho : X.ownsRow B U size v n xs) (hT : U ≠ T) : Kp T X Y := fun k ds fz e => by
  rw [hg.block k (Array.getElem?_eq_some_iff.1 e).1 fun he => ?_]
  · exact e
  rcases ho.2 with ⟨rfl, _⟩ | ⟨g, cap, cur, rfl, _, hh, _⟩
  · cases he
  · injection he with he
    have he : g = k := he.symm
    subst he
    have e2 := hh.symm.trans e
    injection e2 with e2
    injection e2 with _ e2
    exact hT e2
theorem Kp.row {T : TypeId} {X Y : World} (h : Kp T X Y) {B size n : Nat} {v : Value} {xs : List Value} (ho : X.ownsRow B T size v n xs) : Y.ownsRow B T size v n xs := by
  refine ⟨ho.1, ?_⟩
  rcases ho.2 with hn | ⟨g, cap, cur, rfl, hb, hgg, rest⟩
  · exact .inl hn
  · exact .inr ⟨g, cap, cur, rfl, hb, h _ _ _ hgg, rest⟩
theorem Kp.whole {T : TypeId} {X Y : World} (h : Kp T X Y) {g : Nat} {cs : Array Value} (hw : Whole X g T cs) : Whole Y g T cs := h _ _ _ hw

theorem four_new {w X : World} {B : Nat} (h : Lay w B [] X) (t1 t2 t3 t4 : TypeId) (l1 l2 l3 l4 : List Value) : Lay w B [(X.heap.size + 1 + 1 + 1, t4, l4), (X.heap.size + 1 + 1, t3, l3), (X.heap.size + 1, t2, l2), (X.heap.size, t1, l1)] ((((X.alloc (.cells l1.toArray t1)).alloc (.cells l2.toArray t2)).alloc (.cells l3.toArray t3)).alloc (.cells l4.toArray t4)) := by
  have h2 := (((h.new t1 l1).new t2 l2).new t3 l3).new t4 l4
  simpa using h2

set_option maxRecDepth 100000 in
set_option maxHeartbeats 4000000 in
theorem ends_ok (s r : Nat → Nat) (l m : Nat) (born : Int) (hb : rightT born = true) (hm : born ≤ 1099511427776) (w : World) :
    Calls Try.prog 5 #[.agg (byteCells s 32).toArray, .agg (byteCells r 32).toArray, .int .u32 (l : Nat), .int .u32 (m : Nat), .int .i64 born] w fun e w' => e = .returned (.tuple #[.agg (pairL (newP s r l m true born)).toArray, .agg (pairL (newP r s m l false born)).toArray, .bool true]) ∧ Below w.heap.size w w' := by
  have HNA := Lib.hid (fun w => new_ok s r l m true born hb w)
  have HNB := Lib.hid (fun w => new_ok r s m l false born hb w)
  unfold pairV at HNA HNB
  have HKA := Lib.hid (keys5 s r l m true)
  have HKB := Lib.hid (keys4 r s m l)
  have HAS := Lib.hid (keysL_length s r l m true)
  have HBS := Lib.hid (keysL_length r s m l false)
  rw [show keysI s r l m true = keysL s r l m true from rfl] at HKA
  rw [show keysI r s m l false = keysL r s m l false from rfl] at HKB
  obtain ⟨KA, hKA⟩ : ∃ K, keysL s r l m true = K := ⟨_, rfl⟩
  obtain ⟨KB, hKB⟩ : ∃ K, keysL r s m l false = K := ⟨_, rfl⟩
  rw [hKA] at HNA HKA HAS
  rw [hKB] at HNB HKB HBS
  obtain ⟨CA, hCA⟩ : ∃ C, byteCells s 32 = C := ⟨_, rfl⟩
  obtain ⟨CB, hCB⟩ : ∃ C, byteCells r 32 = C := ⟨_, rfl⟩
  have HCA := Lib.hid (show CA.length = 32 by rw [← hCA, byteCells_length])
  have HCB := Lib.hid (show CB.length = 32 by rw [← hCB, byteCells_length])
  rw [hCA, hCB] at HKA HKB ⊢
  have HPAS := Lib.hid (pairL_length (newP s r l m true born))
  have HPBS := Lib.hid (pairL_length (newP r s m l false born))
  have HPA1 := Lib.hid (pair_one (newP s r l m true born))
  have HPB1 := Lib.hid (pair_one (newP r s m l false born))
  obtain ⟨M, hM⟩ : ∃ M, pairL noP = M := ⟨_, rfl⟩
  have HMS := Lib.hid (show M.length = 72 by rw [← hM]; exact pairL_length _)
  have HZ := Lib.hid (show ∀ w, (zeroValue 35).run Try.prog w = .ok (.agg M.toArray) w from fun w => by rw [← hM]; exact zero_pair w)
  obtain ⟨PA, hPA⟩ : ∃ P, pairL (newP s r l m true born) = P := ⟨_, rfl⟩
  obtain ⟨PB, hPB⟩ : ∃ P, pairL (newP r s m l false born) = P := ⟨_, rfl⟩
  rw [hPA] at HNA HPAS HPA1 ⊢
  rw [hPB] at HNB HPBS HPB1 ⊢
  clear hKA hKB hCA hCB hPA hPB hM hb
  have hd : decide (born ≤ 1099511427776) = true := decide_eq_true hm
  clear hm
  have hz := HZ.out
  go_enter Try.func5, Try.ntmps5
  go_upto_region 1 with fail
  clear hz
  have L0 : Lay w w.heap.size [] w := ⟨Below.refl _ _, Nat.le_refl _, fun _ h => by cases h⟩
  refine cut_world (fun X => Lay w w.heap.size [(w.heap.size + 1 + 1 + 1, 35, M), (w.heap.size + 1 + 1, 35, M), (w.heap.size + 1, 23, CB), (w.heap.size, 23, CA)] X) (four_new L0 _ _ _ _ _ _ _ _) ?_
  intro W1 hW
  clear L0
  generalize hB : w.heap.size = B at hW ⊢
  have HB := Lib.hid hB
  have HW := Lib.hid hW
  clear hB hW
  have hz := HZ.out
  go_upto_region 2 with (first
    | (refine Poly.wpList_load_row_if rfl 23 (.tmp 5) rfl B rfl 23 CA _ (HW.out.2.2 (B, 23, CA) (by simp)) rfl rfl (by rw [HCA.out]; kernel_rfl) ?_)
    | (refine Poly.wpList_load_row_if rfl 23 (.tmp 6) rfl (B + 1) rfl 23 CB _ (HW.out.2.2 (B + 1, 23, CB) (by simp)) rfl rfl (by rw [HCB.out]; kernel_rfl) ?_)
    | (refine wpList_builtV rfl 28 [(0, .tmp 18), (1, .tmp 19), (2, .tmp 20), (3, .tmp 21), (4, .const (.bool true))] rfl [(0, .agg CA.toArray), (1, .agg CB.toArray), (2, .int .u32 (l : Nat)), (3, .int .u32 (m : Nat)), (4, .bool true)] rfl KA.toArray HKA.out ?_)
    | (go_at_call 9; refine (HNA.out _).mono ?_; rintro e V1 ⟨rfl, hb1⟩; replace HW := Lib.hid (HW.out.below hb1); clear hb1)
    | (refine wpList_store_row rfl 35 (.tmp 13) (.tmp 25) rfl V1.heap.size PA.toArray rfl rfl 35 _ (Whole.new _ _ _) (by rw [List.size_toArray, HPAS.out]; kernel_rfl) (by simp [HPAS.out, HMS.out]) HPA1.out ?_))
  clear hz
  have hlt := (HW.out.2.2 (B + 1 + 1 + 1, 35, M) (by simp)).lt
  refine cut_world (fun X => Lay w B ((V1.heap.size, 35, PA) :: [(B + 1 + 1 + 1, 35, M), (B + 1 + 1, 35, M), (B + 1, 23, CB), (B, 23, CA)]) X) (HW.out.var _ _ _) ?_
  intro W2 hW
  have Hg1 := Lib.hid (show B + 1 + 1 + 1 < V1.heap.size from hlt)
  generalize V1.heap.size = g1 at hW Hg1 ⊢
  replace HW := Lib.hid hW
  clear hW hlt
  have hz := HZ.out
  go_upto_region 3 with (first
    | (refine Poly.wpList_load_row_if rfl 23 (.tmp 5) rfl B rfl 23 CA _ (HW.out.2.2 (B, 23, CA) (by simp)) rfl rfl (by rw [HCA.out]; kernel_rfl) ?_)
    | (refine Poly.wpList_load_row_if rfl 23 (.tmp 6) rfl (B + 1) rfl 23 CB _ (HW.out.2.2 (B + 1, 23, CB) (by simp)) rfl rfl (by rw [HCB.out]; kernel_rfl) ?_)
    | (refine wpList_builtV rfl 28 [(0, .tmp 28), (1, .tmp 29), (2, .tmp 30), (3, .tmp 31)] rfl [(0, .agg CB.toArray), (1, .agg CA.toArray), (2, .int .u32 (m : Nat)), (3, .int .u32 (l : Nat))] rfl KB.toArray HKB.out ?_)
    | (go_at_call 9; refine (HNB.out _).mono ?_; rintro e V1 ⟨rfl, hb1⟩; replace HW := Lib.hid (HW.out.below hb1); clear hb1)
    | (refine wpList_store_row rfl 35 (.tmp 15) (.tmp 35) rfl V1.heap.size PB.toArray rfl rfl 35 _ (Whole.new _ _ _) (by rw [List.size_toArray, HPBS.out]; kernel_rfl) (by simp [HPBS.out, HMS.out]) HPB1.out ?_))
  clear hz
  have hlt := (HW.out.2.2 (B + 1 + 1 + 1, 35, M) (by simp)).lt
  refine cut_world (fun X => Lay w B ((V1.heap.size, 35, PB) :: (g1, 35, PA) :: [(B + 1 + 1 + 1, 35, M), (B + 1 + 1, 35, M), (B + 1, 23, CB), (B, 23, CA)]) X) (HW.out.var _ _ _) ?_
  intro W3 hW
  have Hg2 := Lib.hid (show B + 1 + 1 + 1 < V1.heap.size from hlt)
  generalize V1.heap.size = g2 at hW Hg2 ⊢
  replace HW := Lib.hid hW
  clear hW hlt
  replace HW := Lib.hid (HW.out.perm (cs := [(B + 1 + 1, 35, M), (B + 1 + 1 + 1, 35, M), (g1, 35, PA), (g2, 35, PB)]) (by simp))
  have h1 := Hg1.out
  have h2 := Hg2.out
  refine region_drew (fun Z => Whole Z g1 35 PA.toArray ∧ Whole Z g2 35 PB.toArray) (by kernel_rfl) ⟨HW.out.2.2 (g1, 35, PA) (by simp), HW.out.2.2 (g2, 35, PB) (by simp)⟩ ?_
  intro hS
  have S1 := Lib.hid (HW.out.drew)
  generalize W3.drew = V at S1 hS ⊢
  refine take 0 (.agg PA.toArray) rfl (by kernel_rfl) (by kernel_rfl) (by kernel_rfl) (fun _ _ _ h => h) (by rfl) hS (fun V hV => run_mid_in 35 (.tmp 13) rfl g1 0 rfl PA _ (whole_range hV.1) rfl rfl (by rw [HPAS.out]; kernel_rfl)) ?_
  try simp only [Act.put, List.setIfInBounds_toArray, List.set_cons_zero, List.set_cons_succ]
  refine take 1 (.agg PB.toArray) rfl (by kernel_rfl) (by kernel_rfl) (by kernel_rfl) (fun _ _ _ h => h) (by rfl) hS (fun V hV => run_mid_in 35 (.tmp 15) rfl g2 0 rfl PB _ (whole_range hV.2) rfl rfl (by rw [HPBS.out]; kernel_rfl)) ?_
  try simp only [Act.put, List.setIfInBounds_toArray, List.set_cons_zero, List.set_cons_succ]
  refine take 2 _ rfl (by kernel_rfl) (by kernel_rfl) (by kernel_rfl) (fun _ _ _ h => h) (by rfl) hS (by intro w _; go_simp; with_reducible rfl) ?_
  try simp only [Act.put, List.setIfInBounds_toArray, List.set_cons_zero, List.set_cons_succ]
  refine take 3 _ rfl (by kernel_rfl) (by kernel_rfl) (by kernel_rfl) (fun _ _ _ h => h) (by rfl) hS (by intro w _; go_simp; with_reducible rfl) ?_
  try simp only [Act.put, List.setIfInBounds_toArray, List.set_cons_zero, List.set_cons_succ]
  refine take 4 _ rfl (by kernel_rfl) (by kernel_rfl) (by kernel_rfl) (fun _ _ _ h => h) (by rfl) hS (by intro w _; go_simp; with_reducible rfl) ?_
  try simp only [Act.put, List.setIfInBounds_toArray, List.set_cons_zero, List.set_cons_succ]
  refine take 5 _ rfl (by kernel_rfl) (by kernel_rfl) (by kernel_rfl) (fun _ _ _ h => h) (by rfl) hS (by intro w _; go_simp; with_reducible rfl) ?_
  try simp only [Act.put, List.setIfInBounds_toArray, List.set_cons_zero, List.set_cons_succ]
  refine take 6 _ rfl (by kernel_rfl) (by kernel_rfl) (by kernel_rfl) (fun _ _ _ h => h) (by rfl) hS (by intro w _; go_simp; with_reducible rfl) ?_
  try simp only [Act.put, List.setIfInBounds_toArray, List.set_cons_zero, List.set_cons_succ]
  refine take 7 _ rfl (by kernel_rfl) (by kernel_rfl) (by kernel_rfl) (fun _ _ _ h => h) (by rfl) hS (by intro w _; go_simp; with_reducible rfl) ?_
  try simp only [Act.put, List.setIfInBounds_toArray, List.set_cons_zero, List.set_cons_succ]
  refine take 8 _ rfl (by kernel_rfl) (by kernel_rfl) (by kernel_rfl) (fun _ _ _ h => h) (by rfl) hS (by intro w _; go_simp; with_reducible rfl) ?_
  try simp only [Act.put, List.setIfInBounds_toArray, List.set_cons_zero, List.set_cons_succ]
  refine take 9 _ rfl (by kernel_rfl) (by kernel_rfl) (by kernel_rfl) (fun _ _ _ h => h) (by rfl) hS (by intro w _; go_simp; with_reducible rfl) ?_
  try simp only [Act.put, List.setIfInBounds_toArray, List.set_cons_zero, List.set_cons_succ]
  refine take 10 _ rfl (by kernel_rfl) (by kernel_rfl) (by kernel_rfl) (fun _ _ _ h => h) (by rfl) hS (by intro w _; go_simp; with_reducible rfl) ?_
  try simp only [Act.put, List.setIfInBounds_toArray, List.set_cons_zero, List.set_cons_succ]
  refine take 11 _ rfl (by kernel_rfl) (by kernel_rfl) (by kernel_rfl) (fun _ _ _ h => h) (by rfl) hS (by intro w _; go_simp; with_reducible rfl) ?_
  try simp only [Act.put, List.setIfInBounds_toArray, List.set_cons_zero, List.set_cons_succ]
  refine alone 12 rfl (by kernel_rfl) (by rfl) ?_
  intro KK hKK
  refine wp_store_row 35 (.tmp 10) (.tmp 37) rfl (B + 1 + 1) PA.toArray rfl rfl 35 _ (S1.out.2.2 (B + 1 + 1, 35, M) (by simp)) (by rw [List.size_toArray, HPAS.out]; kernel_rfl) (by simp [HPAS.out, HMS.out]) HPA1.out ?_
  replace hS := And.intro (Whole.farRow hS.1 (show g1 ≠ B + 1 + 1 by omega) PA.toArray) (Whole.farRow hS.2 (show g2 ≠ B + 1 + 1 by omega) PA.toArray)
  replace S1 := Lib.hid (((S1.out.perm (cs := [(B + 1 + 1, 35, M), (B + 1 + 1 + 1, 35, M)]) (by simp)).set (by omega) (by simp) PA).perm (cs := [(B + 1 + 1 + 1, 35, M), (B + 1 + 1, 35, PA)]) (by simp))
  refine hKK.out _ _ hS ?_
  clear hKK KK
  try simp only [Act.put]
  refine alone 13 rfl (by kernel_rfl) (by rfl) ?_
  intro KK hKK
  refine wp_store_row 35 (.tmp 11) (.tmp 38) rfl (B + 1 + 1 + 1) PB.toArray rfl rfl 35 _ (S1.out.2.2 (B + 1 + 1 + 1, 35, M) (by simp)) (by rw [List.size_toArray, HPBS.out]; kernel_rfl) (by simp [HPBS.out, HMS.out]) HPB1.out ?_
  replace hS := And.intro (Whole.farRow hS.1 (show g1 ≠ B + 1 + 1 + 1 by omega) PB.toArray) (Whole.farRow hS.2 (show g2 ≠ B + 1 + 1 + 1 by omega) PB.toArray)
  replace S1 := Lib.hid (S1.out.set (by omega) (by simp) PB)
  refine hKK.out _ _ hS ?_
  clear hKK KK
  try simp only [Act.put]
  refine take 14 _ rfl (by kernel_rfl) (by kernel_rfl) (by kernel_rfl) (fun _ _ _ h => h) (by rfl) hS (by intro w _; go_simp; with_reducible rfl) ?_
  try simp only [Act.put, List.setIfInBounds_toArray, List.set_cons_zero, List.set_cons_succ]
  refine region_end (by kernel_rfl) ?_
  go_wp2_with fail
  refine bodyPost_ret (results3 rfl _ _ (B + 1 + 1) 35 _ _ rfl (S1.out.2.2 (B + 1 + 1, 35, PA) (by simp)) rfl rfl (by rw [HPAS.out]; kernel_rfl) (B + 1 + 1 + 1) 35 _ _ rfl (S1.out.2.2 (B + 1 + 1 + 1, 35, PB) (by simp)) rfl rfl (by rw [HPBS.out]; kernel_rfl)) rfl ?_
  exact ⟨rfl, by rw [HB.out]; exact S1.out.1⟩

set_option maxRecDepth 100000 in
set_option maxHeartbeats 4000000 in
theorem ends_late (s r : Nat → Nat) (l m : Nat) (born : Int) (hb : rightT born = true) (hm : ¬ born ≤ 1099511427776) (w : World) :
    Calls Try.prog 5 #[.agg (byteCells s 32).toArray, .agg (byteCells r 32).toArray, .int .u32 (l : Nat), .int .u32 (m : Nat), .int .i64 born] w fun e w' => e = .returned (.tuple #[.agg (pairL (newP s r l m true born)).toArray, .agg (pairL (newP r s m l false born)).toArray, .bool false]) ∧ Below w.heap.size w w' := by
  have HNA := Lib.hid (fun w => new_ok s r l m true born hb w)
  have HNB := Lib.hid (fun w => new_ok r s m l false born hb w)
  unfold pairV at HNA HNB
  have HKA := Lib.hid (keys5 s r l m true)
  have HKB := Lib.hid (keys4 r s m l)
  have HAS := Lib.hid (keysL_length s r l m true)
  have HBS := Lib.hid (keysL_length r s m l false)
  rw [show keysI s r l m true = keysL s r l m true from rfl] at HKA
  rw [show keysI r s m l false = keysL r s m l false from rfl] at HKB
  obtain ⟨KA, hKA⟩ : ∃ K, keysL s r l m true = K := ⟨_, rfl⟩
  obtain ⟨KB, hKB⟩ : ∃ K, keysL r s m l false = K := ⟨_, rfl⟩
  rw [hKA] at HNA HKA HAS
  rw [hKB] at HNB HKB HBS
  obtain ⟨CA, hCA⟩ : ∃ C, byteCells s 32 = C := ⟨_, rfl⟩
  obtain ⟨CB, hCB⟩ : ∃ C, byteCells r 32 = C := ⟨_, rfl⟩
  have HCA := Lib.hid (show CA.length = 32 by rw [← hCA, byteCells_length])
  have HCB := Lib.hid (show CB.length = 32 by rw [← hCB, byteCells_length])
  rw [hCA, hCB] at HKA HKB ⊢
  have HPAS := Lib.hid (pairL_length (newP s r l m true born))
  have HPBS := Lib.hid (pairL_length (newP r s m l false born))
  have HPA1 := Lib.hid (pair_one (newP s r l m true born))
  have HPB1 := Lib.hid (pair_one (newP r s m l false born))
  obtain ⟨M, hM⟩ : ∃ M, pairL noP = M := ⟨_, rfl⟩
  have HMS := Lib.hid (show M.length = 72 by rw [← hM]; exact pairL_length _)
  have HZ := Lib.hid (show ∀ w, (zeroValue 35).run Try.prog w = .ok (.agg M.toArray) w from fun w => by rw [← hM]; exact zero_pair w)
  obtain ⟨PA, hPA⟩ : ∃ P, pairL (newP s r l m true born) = P := ⟨_, rfl⟩
  obtain ⟨PB, hPB⟩ : ∃ P, pairL (newP r s m l false born) = P := ⟨_, rfl⟩
  rw [hPA] at HNA HPAS HPA1 ⊢
  rw [hPB] at HNB HPBS HPB1 ⊢
  clear hKA hKB hCA hCB hPA hPB hM hb
  have hd : decide (born ≤ 1099511427776) = false := decide_eq_false hm
  clear hm
  have hz := HZ.out
  go_enter Try.func5, Try.ntmps5
  go_upto_region 1 with fail
  clear hz
  have L0 : Lay w w.heap.size [] w := ⟨Below.refl _ _, Nat.le_refl _, fun _ h => by cases h⟩
  refine cut_world (fun X => Lay w w.heap.size [(w.heap.size + 1 + 1 + 1, 35, M), (w.heap.size + 1 + 1, 35, M), (w.heap.size + 1, 23, CB), (w.heap.size, 23, CA)] X) (four_new L0 _ _ _ _ _ _ _ _) ?_
  intro W1 hW
  clear L0
  generalize hB : w.heap.size = B at hW ⊢
  have HB := Lib.hid hB
  have HW := Lib.hid hW
  clear hB hW
  have hz := HZ.out
  go_upto_region 2 with (first
    | (refine Poly.wpList_load_row_if rfl 23 (.tmp 5) rfl B rfl 23 CA _ (HW.out.2.2 (B, 23, CA) (by simp)) rfl rfl (by rw [HCA.out]; kernel_rfl) ?_)
    | (refine Poly.wpList_load_row_if rfl 23 (.tmp 6) rfl (B + 1) rfl 23 CB _ (HW.out.2.2 (B + 1, 23, CB) (by simp)) rfl rfl (by rw [HCB.out]; kernel_rfl) ?_)
    | (refine wpList_builtV rfl 28 [(0, .tmp 18), (1, .tmp 19), (2, .tmp 20), (3, .tmp 21), (4, .const (.bool true))] rfl [(0, .agg CA.toArray), (1, .agg CB.toArray), (2, .int .u32 (l : Nat)), (3, .int .u32 (m : Nat)), (4, .bool true)] rfl KA.toArray HKA.out ?_)
    | (go_at_call 9; refine (HNA.out _).mono ?_; rintro e V1 ⟨rfl, hb1⟩; replace HW := Lib.hid (HW.out.below hb1); clear hb1)
    | (refine wpList_store_row rfl 35 (.tmp 13) (.tmp 25) rfl V1.heap.size PA.toArray rfl rfl 35 _ (Whole.new _ _ _) (by rw [List.size_toArray, HPAS.out]; kernel_rfl) (by simp [HPAS.out, HMS.out]) HPA1.out ?_))
  clear hz
  have hlt := (HW.out.2.2 (B + 1 + 1 + 1, 35, M) (by simp)).lt
  refine cut_world (fun X => Lay w B ((V1.heap.size, 35, PA) :: [(B + 1 + 1 + 1, 35, M), (B + 1 + 1, 35, M), (B + 1, 23, CB), (B, 23, CA)]) X) (HW.out.var _ _ _) ?_
  intro W2 hW
  have Hg1 := Lib.hid (show B + 1 + 1 + 1 < V1.heap.size from hlt)
  generalize V1.heap.size = g1 at hW Hg1 ⊢
  replace HW := Lib.hid hW
  clear hW hlt
  have hz := HZ.out
  go_upto_region 3 with (first
    | (refine Poly.wpList_load_row_if rfl 23 (.tmp 5) rfl B rfl 23 CA _ (HW.out.2.2 (B, 23, CA) (by simp)) rfl rfl (by rw [HCA.out]; kernel_rfl) ?_)
    | (refine Poly.wpList_load_row_if rfl 23 (.tmp 6) rfl (B + 1) rfl 23 CB _ (HW.out.2.2 (B + 1, 23, CB) (by simp)) rfl rfl (by rw [HCB.out]; kernel_rfl) ?_)
    | (refine wpList_builtV rfl 28 [(0, .tmp 28), (1, .tmp 29), (2, .tmp 30), (3, .tmp 31)] rfl [(0, .agg CB.toArray), (1, .agg CA.toArray), (2, .int .u32 (m : Nat)), (3, .int .u32 (l : Nat))] rfl KB.toArray HKB.out ?_)
    | (go_at_call 9; refine (HNB.out _).mono ?_; rintro e V1 ⟨rfl, hb1⟩; replace HW := Lib.hid (HW.out.below hb1); clear hb1)
    | (refine wpList_store_row rfl 35 (.tmp 15) (.tmp 35) rfl V1.heap.size PB.toArray rfl rfl 35 _ (Whole.new _ _ _) (by rw [List.size_toArray, HPBS.out]; kernel_rfl) (by simp [HPBS.out, HMS.out]) HPB1.out ?_))
  clear hz
  have hlt := (HW.out.2.2 (B + 1 + 1 + 1, 35, M) (by simp)).lt
  refine cut_world (fun X => Lay w B ((V1.heap.size, 35, PB) :: (g1, 35, PA) :: [(B + 1 + 1 + 1, 35, M), (B + 1 + 1, 35, M), (B + 1, 23, CB), (B, 23, CA)]) X) (HW.out.var _ _ _) ?_
  intro W3 hW
  have Hg2 := Lib.hid (show B + 1 + 1 + 1 < V1.heap.size from hlt)
  generalize V1.heap.size = g2 at hW Hg2 ⊢
  replace HW := Lib.hid hW
  clear hW hlt
  replace HW := Lib.hid (HW.out.perm (cs := [(B + 1 + 1, 35, M), (B + 1 + 1 + 1, 35, M), (g1, 35, PA), (g2, 35, PB)]) (by simp))
  have h1 := Hg1.out
  have h2 := Hg2.out
  refine region_drew (fun Z => Whole Z g1 35 PA.toArray ∧ Whole Z g2 35 PB.toArray) (by kernel_rfl) ⟨HW.out.2.2 (g1, 35, PA) (by simp), HW.out.2.2 (g2, 35, PB) (by simp)⟩ ?_
  intro hS
  have S1 := Lib.hid (HW.out.drew)
  generalize W3.drew = V at S1 hS ⊢
  refine take 0 (.agg PA.toArray) rfl (by kernel_rfl) (by kernel_rfl) (by kernel_rfl) (fun _ _ _ h => h) (by rfl) hS (fun V hV => run_mid_in 35 (.tmp 13) rfl g1 0 rfl PA _ (whole_range hV.1) rfl rfl (by rw [HPAS.out]; kernel_rfl)) ?_
  try simp only [Act.put, List.setIfInBounds_toArray, List.set_cons_zero, List.set_cons_succ]
  refine take 1 (.agg PB.toArray) rfl (by kernel_rfl) (by kernel_rfl) (by kernel_rfl) (fun _ _ _ h => h) (by rfl) hS (fun V hV => run_mid_in 35 (.tmp 15) rfl g2 0 rfl PB _ (whole_range hV.2) rfl rfl (by rw [HPBS.out]; kernel_rfl)) ?_
  try simp only [Act.put, List.setIfInBounds_toArray, List.set_cons_zero, List.set_cons_succ]
  refine take 2 _ rfl (by kernel_rfl) (by kernel_rfl) (by kernel_rfl) (fun _ _ _ h => h) (by rfl) hS (by intro w _; go_simp; with_reducible rfl) ?_
  try simp only [Act.put, List.setIfInBounds_toArray, List.set_cons_zero, List.set_cons_succ]
  refine take 3 _ rfl (by kernel_rfl) (by kernel_rfl) (by kernel_rfl) (fun _ _ _ h => h) (by rfl) hS (by intro w _; go_simp; with_reducible rfl) ?_
  try simp only [Act.put, List.setIfInBounds_toArray, List.set_cons_zero, List.set_cons_succ]
  refine take 4 _ rfl (by kernel_rfl) (by kernel_rfl) (by kernel_rfl) (fun _ _ _ h => h) (by rfl) hS (by intro w _; go_simp; with_reducible rfl) ?_
  try simp only [Act.put, List.setIfInBounds_toArray, List.set_cons_zero, List.set_cons_succ]
  refine take 5 _ rfl (by kernel_rfl) (by kernel_rfl) (by kernel_rfl) (fun _ _ _ h => h) (by rfl) hS (by intro w _; go_simp; with_reducible rfl) ?_
  try simp only [Act.put, List.setIfInBounds_toArray, List.set_cons_zero, List.set_cons_succ]
  refine take 6 _ rfl (by kernel_rfl) (by kernel_rfl) (by kernel_rfl) (fun _ _ _ h => h) (by rfl) hS (by intro w _; go_simp; with_reducible rfl) ?_
  try simp only [Act.put, List.setIfInBounds_toArray, List.set_cons_zero, List.set_cons_succ]
  refine take 7 _ rfl (by kernel_rfl) (by kernel_rfl) (by kernel_rfl) (fun _ _ _ h => h) (by rfl) hS (by intro w _; go_simp; with_reducible rfl) ?_
  try simp only [Act.put, List.setIfInBounds_toArray, List.set_cons_zero, List.set_cons_succ]
  refine take 8 _ rfl (by kernel_rfl) (by kernel_rfl) (by kernel_rfl) (fun _ _ _ h => h) (by rfl) hS (by intro w _; go_simp; with_reducible rfl) ?_
  try simp only [Act.put, List.setIfInBounds_toArray, List.set_cons_zero, List.set_cons_succ]
  refine take 9 _ rfl (by kernel_rfl) (by kernel_rfl) (by kernel_rfl) (fun _ _ _ h => h) (by rfl) hS (by intro w _; go_simp; with_reducible rfl) ?_
  try simp only [Act.put, List.setIfInBounds_toArray, List.set_cons_zero, List.set_cons_succ]
  refine take 10 _ rfl (by kernel_rfl) (by kernel_rfl) (by kernel_rfl) (fun _ _ _ h => h) (by rfl) hS (by intro w _; go_simp; with_reducible rfl) ?_
  try simp only [Act.put, List.setIfInBounds_toArray, List.set_cons_zero, List.set_cons_succ]
  refine take 11 _ rfl (by kernel_rfl) (by kernel_rfl) (by kernel_rfl) (fun _ _ _ h => h) (by rfl) hS (by intro w _; go_simp; with_reducible rfl) ?_
  try simp only [Act.put, List.setIfInBounds_toArray, List.set_cons_zero, List.set_cons_succ]
  refine alone 12 rfl (by kernel_rfl) (by rfl) ?_
  intro KK hKK
  refine wp_store_row 35 (.tmp 10) (.tmp 37) rfl (B + 1 + 1) PA.toArray rfl rfl 35 _ (S1.out.2.2 (B + 1 + 1, 35, M) (by simp)) (by rw [List.size_toArray, HPAS.out]; kernel_rfl) (by simp [HPAS.out, HMS.out]) HPA1.out ?_
  replace hS := And.intro (Whole.farRow hS.1 (show g1 ≠ B + 1 + 1 by omega) PA.toArray) (Whole.farRow hS.2 (show g2 ≠ B + 1 + 1 by omega) PA.toArray)
  replace S1 := Lib.hid (((S1.out.perm (cs := [(B + 1 + 1, 35, M), (B + 1 + 1 + 1, 35, M)]) (by simp)).set (by omega) (by simp) PA).perm (cs := [(B + 1 + 1 + 1, 35, M), (B + 1 + 1, 35, PA)]) (by simp))
  refine hKK.out _ _ hS ?_
  clear hKK KK
  try simp only [Act.put]
  refine alone 13 rfl (by kernel_rfl) (by rfl) ?_
  intro KK hKK
  refine wp_store_row 35 (.tmp 11) (.tmp 38) rfl (B + 1 + 1 + 1) PB.toArray rfl rfl 35 _ (S1.out.2.2 (B + 1 + 1 + 1, 35, M) (by simp)) (by rw [List.size_toArray, HPBS.out]; kernel_rfl) (by simp [HPBS.out, HMS.out]) HPB1.out ?_
  replace hS := And.intro (Whole.farRow hS.1 (show g1 ≠ B + 1 + 1 + 1 by omega) PB.toArray) (Whole.farRow hS.2 (show g2 ≠ B + 1 + 1 + 1 by omega) PB.toArray)
  replace S1 := Lib.hid (S1.out.set (by omega) (by simp) PB)
  refine hKK.out _ _ hS ?_
  clear hKK KK
  try simp only [Act.put]
  refine take 14 _ rfl (by kernel_rfl) (by kernel_rfl) (by kernel_rfl) (fun _ _ _ h => h) (by rfl) hS (by intro w _; go_simp; with_reducible rfl) ?_
  try simp only [Act.put, List.setIfInBounds_toArray, List.set_cons_zero, List.set_cons_succ]
  refine region_end (by kernel_rfl) ?_
  go_wp2_with fail
  refine bodyPost_ret (results3 rfl _ _ (B + 1 + 1) 35 _ _ rfl (S1.out.2.2 (B + 1 + 1, 35, PA) (by simp)) rfl rfl (by rw [HPAS.out]; kernel_rfl) (B + 1 + 1 + 1) 35 _ _ rfl (S1.out.2.2 (B + 1 + 1 + 1, 35, PB) (by simp)) rfl rfl (by rw [HPBS.out]; kernel_rfl)) rfl ?_
  exact ⟨rfl, by rw [HB.out]; exact S1.out.1⟩

set_option maxRecDepth 100000 in
set_option maxHeartbeats 4000000 in
theorem ends_no (s r : Nat → Nat) (l m : Nat) (born : Int) (hb : rightT born = false) (w : World) :
    Calls Try.prog 5 #[.agg (byteCells s 32).toArray, .agg (byteCells r 32).toArray, .int .u32 (l : Nat), .int .u32 (m : Nat), .int .i64 born] w fun e w' => e = .returned (.tuple #[.agg (pairL noP).toArray, .agg (pairL noP).toArray, .bool false]) ∧ Below w.heap.size w w' := by
  have HNA := Lib.hid (fun w => new_no s r l m true born hb w)
  have HNB := Lib.hid (fun w => new_no r s m l false born hb w)
  unfold pairV at HNA HNB
  have HKA := Lib.hid (keys5 s r l m true)
  have HKB := Lib.hid (keys4 r s m l)
  have HAS := Lib.hid (keysL_length s r l m true)
  have HBS := Lib.hid (keysL_length r s m l false)
  rw [show keysI s r l m true = keysL s r l m true from rfl] at HKA
  rw [show keysI r s m l false = keysL r s m l false from rfl] at HKB
  obtain ⟨KA, hKA⟩ : ∃ K, keysL s r l m true = K := ⟨_, rfl⟩
  obtain ⟨KB, hKB⟩ : ∃ K, keysL r s m l false = K := ⟨_, rfl⟩
  rw [hKA] at HNA HKA HAS
  rw [hKB] at HNB HKB HBS
  obtain ⟨CA, hCA⟩ : ∃ C, byteCells s 32 = C := ⟨_, rfl⟩
  obtain ⟨CB, hCB⟩ : ∃ C, byteCells r 32 = C := ⟨_, rfl⟩
  have HCA := Lib.hid (show CA.length = 32 by rw [← hCA, byteCells_length])
  have HCB := Lib.hid (show CB.length = 32 by rw [← hCB, byteCells_length])
  rw [hCA, hCB] at HKA HKB ⊢
  have HPAS := Lib.hid (pairL_length noP)
  have HPBS := Lib.hid (pairL_length noP)
  have HPA1 := Lib.hid (pair_one noP)
  have HPB1 := Lib.hid (pair_one noP)
  obtain ⟨M, hM⟩ : ∃ M, pairL noP = M := ⟨_, rfl⟩
  have HMS := Lib.hid (show M.length = 72 by rw [← hM]; exact pairL_length _)
  have HZ := Lib.hid (show ∀ w, (zeroValue 35).run Try.prog w = .ok (.agg M.toArray) w from fun w => by rw [← hM]; exact zero_pair w)
  obtain ⟨PA, hPA⟩ : ∃ P, pairL noP = P := ⟨_, rfl⟩
  rw [hPA] at HNA HPAS HPA1 HNB HPBS HPB1 ⊢
  clear hKA hKB hCA hCB hPA hM hb
  have hz := HZ.out
  go_enter Try.func5, Try.ntmps5
  go_upto_region 1 with fail
  clear hz
  have L0 : Lay w w.heap.size [] w := ⟨Below.refl _ _, Nat.le_refl _, fun _ h => by cases h⟩
  refine cut_world (fun X => Lay w w.heap.size [(w.heap.size + 1 + 1 + 1, 35, M), (w.heap.size + 1 + 1, 35, M), (w.heap.size + 1, 23, CB), (w.heap.size, 23, CA)] X) (four_new L0 _ _ _ _ _ _ _ _) ?_
  intro W1 hW
  clear L0
  generalize hB : w.heap.size = B at hW ⊢
  have HB := Lib.hid hB
  have HW := Lib.hid hW
  clear hB hW
  have hz := HZ.out
  go_upto_region 2 with (first
    | (refine Poly.wpList_load_row_if rfl 23 (.tmp 5) rfl B rfl 23 CA _ (HW.out.2.2 (B, 23, CA) (by simp)) rfl rfl (by rw [HCA.out]; kernel_rfl) ?_)
    | (refine Poly.wpList_load_row_if rfl 23 (.tmp 6) rfl (B + 1) rfl 23 CB _ (HW.out.2.2 (B + 1, 23, CB) (by simp)) rfl rfl (by rw [HCB.out]; kernel_rfl) ?_)
    | (refine wpList_builtV rfl 28 [(0, .tmp 18), (1, .tmp 19), (2, .tmp 20), (3, .tmp 21), (4, .const (.bool true))] rfl [(0, .agg CA.toArray), (1, .agg CB.toArray), (2, .int .u32 (l : Nat)), (3, .int .u32 (m : Nat)), (4, .bool true)] rfl KA.toArray HKA.out ?_)
    | (go_at_call 9; refine (HNA.out _).mono ?_; rintro e V1 ⟨rfl, hb1⟩; replace HW := Lib.hid (HW.out.below hb1); clear hb1)
    | (refine wpList_store_row rfl 35 (.tmp 13) (.tmp 25) rfl V1.heap.size PA.toArray rfl rfl 35 _ (Whole.new _ _ _) (by rw [List.size_toArray, HPAS.out]; kernel_rfl) (by simp [HPAS.out, HMS.out]) HPA1.out ?_))
  clear hz
  have hlt := (HW.out.2.2 (B + 1 + 1 + 1, 35, M) (by simp)).lt
  refine cut_world (fun X => Lay w B ((V1.heap.size, 35, PA) :: [(B + 1 + 1 + 1, 35, M), (B + 1 + 1, 35, M), (B + 1, 23, CB), (B, 23, CA)]) X) (HW.out.var _ _ _) ?_
  intro W2 hW
  have Hg1 := Lib.hid (show B + 1 + 1 + 1 < V1.heap.size from hlt)
  generalize V1.heap.size = g1 at hW Hg1 ⊢
  replace HW := Lib.hid hW
  clear hW hlt
  have hz := HZ.out
  go_upto_region 3 with (first
    | (refine Poly.wpList_load_row_if rfl 23 (.tmp 5) rfl B rfl 23 CA _ (HW.out.2.2 (B, 23, CA) (by simp)) rfl rfl (by rw [HCA.out]; kernel_rfl) ?_)
    | (refine Poly.wpList_load_row_if rfl 23 (.tmp 6) rfl (B + 1) rfl 23 CB _ (HW.out.2.2 (B + 1, 23, CB) (by simp)) rfl rfl (by rw [HCB.out]; kernel_rfl) ?_)
    | (refine wpList_builtV rfl 28 [(0, .tmp 28), (1, .tmp 29), (2, .tmp 30), (3, .tmp 31)] rfl [(0, .agg CB.toArray), (1, .agg CA.toArray), (2, .int .u32 (m : Nat)), (3, .int .u32 (l : Nat))] rfl KB.toArray HKB.out ?_)
    | (go_at_call 9; refine (HNB.out _).mono ?_; rintro e V1 ⟨rfl, hb1⟩; replace HW := Lib.hid (HW.out.below hb1); clear hb1)
    | (refine wpList_store_row rfl 35 (.tmp 15) (.tmp 35) rfl V1.heap.size PA.toArray rfl rfl 35 _ (Whole.new _ _ _) (by rw [List.size_toArray, HPBS.out]; kernel_rfl) (by simp [HPBS.out, HMS.out]) HPB1.out ?_))
  clear hz
  have hlt := (HW.out.2.2 (B + 1 + 1 + 1, 35, M) (by simp)).lt
  refine cut_world (fun X => Lay w B ((V1.heap.size, 35, PA) :: (g1, 35, PA) :: [(B + 1 + 1 + 1, 35, M), (B + 1 + 1, 35, M), (B + 1, 23, CB), (B, 23, CA)]) X) (HW.out.var _ _ _) ?_
  intro W3 hW
  have Hg2 := Lib.hid (show B + 1 + 1 + 1 < V1.heap.size from hlt)
  generalize V1.heap.size = g2 at hW Hg2 ⊢
  replace HW := Lib.hid hW
  clear hW hlt
  replace HW := Lib.hid (HW.out.perm (cs := [(B + 1 + 1, 35, M), (B + 1 + 1 + 1, 35, M), (g1, 35, PA), (g2, 35, PA)]) (by simp))
  have h1 := Hg1.out
  have h2 := Hg2.out
  refine region_drew (fun Z => Whole Z g1 35 PA.toArray ∧ Whole Z g2 35 PA.toArray) (by kernel_rfl) ⟨HW.out.2.2 (g1, 35, PA) (by simp), HW.out.2.2 (g2, 35, PA) (by simp)⟩ ?_
  intro hS
  have S1 := Lib.hid (HW.out.drew)
  generalize W3.drew = V at S1 hS ⊢
  refine take 0 (.agg PA.toArray) rfl (by kernel_rfl) (by kernel_rfl) (by kernel_rfl) (fun _ _ _ h => h) (by rfl) hS (fun V hV => run_mid_in 35 (.tmp 13) rfl g1 0 rfl PA _ (whole_range hV.1) rfl rfl (by rw [HPAS.out]; kernel_rfl)) ?_
  try simp only [Act.put, List.setIfInBounds_toArray, List.set_cons_zero, List.set_cons_succ]
  refine take 1 (.agg PA.toArray) rfl (by kernel_rfl) (by kernel_rfl) (by kernel_rfl) (fun _ _ _ h => h) (by rfl) hS (fun V hV => run_mid_in 35 (.tmp 15) rfl g2 0 rfl PA _ (whole_range hV.2) rfl rfl (by rw [HPBS.out]; kernel_rfl)) ?_
  try simp only [Act.put, List.setIfInBounds_toArray, List.set_cons_zero, List.set_cons_succ]
  refine take 2 _ rfl (by kernel_rfl) (by kernel_rfl) (by kernel_rfl) (fun _ _ _ h => h) (by rfl) hS (by intro w _; go_simp; with_reducible rfl) ?_
  try simp only [Act.put, List.setIfInBounds_toArray, List.set_cons_zero, List.set_cons_succ]
  refine take 3 _ rfl (by kernel_rfl) (by kernel_rfl) (by kernel_rfl) (fun _ _ _ h => h) (by rfl) hS (by intro w _; go_simp; with_reducible rfl) ?_
  try simp only [Act.put, List.setIfInBounds_toArray, List.set_cons_zero, List.set_cons_succ]
  refine take 4 _ rfl (by kernel_rfl) (by kernel_rfl) (by kernel_rfl) (fun _ _ _ h => h) (by rfl) hS (by intro w _; go_simp; with_reducible rfl) ?_
  try simp only [Act.put, List.setIfInBounds_toArray, List.set_cons_zero, List.set_cons_succ]
  refine pass 5 rfl (by kernel_rfl) (by kernel_rfl) (by kernel_rfl) (fun _ _ _ h => h) (by rfl) hS ?_
  try simp only [Act.put, List.setIfInBounds_toArray, List.set_cons_zero, List.set_cons_succ]
  refine pass 6 rfl (by kernel_rfl) (by kernel_rfl) (by kernel_rfl) (fun _ _ _ h => h) (by rfl) hS ?_
  try simp only [Act.put, List.setIfInBounds_toArray, List.set_cons_zero, List.set_cons_succ]
  refine take 7 _ rfl (by kernel_rfl) (by kernel_rfl) (by kernel_rfl) (fun _ _ _ h => h) (by rfl) hS (by intro w _; go_simp; with_reducible rfl) ?_
  try simp only [Act.put, List.setIfInBounds_toArray, List.set_cons_zero, List.set_cons_succ]
  refine take 8 _ rfl (by kernel_rfl) (by kernel_rfl) (by kernel_rfl) (fun _ _ _ h => h) (by rfl) hS (by intro w _; go_simp; with_reducible rfl) ?_
  try simp only [Act.put, List.setIfInBounds_toArray, List.set_cons_zero, List.set_cons_succ]
  refine pass 9 rfl (by kernel_rfl) (by kernel_rfl) (by kernel_rfl) (fun _ _ _ h => h) (by rfl) hS ?_
  try simp only [Act.put, List.setIfInBounds_toArray, List.set_cons_zero, List.set_cons_succ]
  refine pass 10 rfl (by kernel_rfl) (by kernel_rfl) (by kernel_rfl) (fun _ _ _ h => h) (by rfl) hS ?_
  try simp only [Act.put, List.setIfInBounds_toArray, List.set_cons_zero, List.set_cons_succ]
  refine take 11 _ rfl (by kernel_rfl) (by kernel_rfl) (by kernel_rfl) (fun _ _ _ h => h) (by rfl) hS (by intro w _; go_simp; with_reducible rfl) ?_
  try simp only [Act.put, List.setIfInBounds_toArray, List.set_cons_zero, List.set_cons_succ]
  refine alone 12 rfl (by kernel_rfl) (by rfl) ?_
  intro KK hKK
  refine wp_store_row 35 (.tmp 10) (.tmp 37) rfl (B + 1 + 1) PA.toArray rfl rfl 35 _ (S1.out.2.2 (B + 1 + 1, 35, M) (by simp)) (by rw [List.size_toArray, HPAS.out]; kernel_rfl) (by simp [HPAS.out, HMS.out]) HPA1.out ?_
  replace hS := And.intro (Whole.farRow hS.1 (show g1 ≠ B + 1 + 1 by omega) PA.toArray) (Whole.farRow hS.2 (show g2 ≠ B + 1 + 1 by omega) PA.toArray)
  replace S1 := Lib.hid (((S1.out.perm (cs := [(B + 1 + 1, 35, M), (B + 1 + 1 + 1, 35, M)]) (by simp)).set (by omega) (by simp) PA).perm (cs := [(B + 1 + 1 + 1, 35, M), (B + 1 + 1, 35, PA)]) (by simp))
  refine hKK.out _ _ hS ?_
  clear hKK KK
  try simp only [Act.put]
  refine alone 13 rfl (by kernel_rfl) (by rfl) ?_
  intro KK hKK
  refine wp_store_row 35 (.tmp 11) (.tmp 38) rfl (B + 1 + 1 + 1) PA.toArray rfl rfl 35 _ (S1.out.2.2 (B + 1 + 1 + 1, 35, M) (by simp)) (by rw [List.size_toArray, HPBS.out]; kernel_rfl) (by simp [HPBS.out, HMS.out]) HPB1.out ?_
  replace hS := And.intro (Whole.farRow hS.1 (show g1 ≠ B + 1 + 1 + 1 by omega) PA.toArray) (Whole.farRow hS.2 (show g2 ≠ B + 1 + 1 + 1 by omega) PA.toArray)
  replace S1 := Lib.hid (S1.out.set (by omega) (by simp) PA)
  refine hKK.out _ _ hS ?_
  clear hKK KK
  try simp only [Act.put]
  refine take 14 _ rfl (by kernel_rfl) (by kernel_rfl) (by kernel_rfl) (fun _ _ _ h => h) (by rfl) hS (by intro w _; go_simp; with_reducible rfl) ?_
  try simp only [Act.put, List.setIfInBounds_toArray, List.set_cons_zero, List.set_cons_succ]
  refine region_end (by kernel_rfl) ?_
  go_wp2_with fail
  refine bodyPost_ret (results3 rfl _ _ (B + 1 + 1) 35 _ _ rfl (S1.out.2.2 (B + 1 + 1, 35, PA) (by simp)) rfl rfl (by rw [HPAS.out]; kernel_rfl) (B + 1 + 1 + 1) 35 _ _ rfl (S1.out.2.2 (B + 1 + 1 + 1, 35, PA) (by simp)) rfl rfl (by rw [HPBS.out]; kernel_rfl)) rfl ?_
  exact ⟨rfl, by rw [HB.out]; exact S1.out.1⟩

end Pr
end Go.Proofs.Ytcncdejdpcelpaa
